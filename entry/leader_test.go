package entry_test

import (
	"fmt"
	"math/rand"
	"testing"

	"tollbar/api"
	"tollbar/entry"
)

// sent is what a leader sends: entries, with the index and the term of the one ahead of them, or, if it is a text, of what was let go.
type sent struct {
	to, term, index, ahead, commit int
	more                           []entry.Entry
	text                           bool
}

// party are members that share a log as chapter 13 says: of a term one leads at most, whom a majority voted for, as its log is as new as theirs.
type party struct {
	t                  *testing.T
	draw               *rand.Rand
	logs               []entry.Log
	terms, commits     []int
	leads, term, added int
	next, match        []int
	way                []sent
	made               map[[2]int]entry.Entry // by index and term: what a leader added
	ahead              map[[2]int]int         // and the term of the one ahead of it
	seen               map[string]int
}

// newParty are so many members, of whom nobody leads.
func newParty(t *testing.T, draw *rand.Rand, n int) *party {
	return &party{
		t: t, draw: draw, logs: make([]entry.Log, n), terms: make([]int, n), commits: make([]int, n), leads: -1,
		made: map[[2]int]entry.Entry{}, ahead: map[[2]int]int{}, seen: map[string]int{},
	}
}

// stands lets a member stand in a new term; others hear of it or not.
func (p *party) stands(id int) {
	p.term++
	p.terms[id], p.leads = p.term, -1
	index, term := entry.Last(p.logs[id])
	votes := 1
	for other := range p.logs {
		if other == id || p.draw.Intn(3) == 0 {
			continue
		}
		p.terms[other] = p.term
		if entry.Newer(p.logs[other], index, term) {
			votes++
		} else {
			p.seen["no vote"]++
		}
	}
	if votes*2 <= len(p.logs) {
		p.seen["no majority"]++
		return
	}
	p.seen["leads"]++
	p.leads, p.next, p.match = id, make([]int, len(p.logs)), make([]int, len(p.logs))
	for other := range p.next {
		p.next[other] = index + 1
	}
	p.adds()
}

// adds lets the leader add an entry, as no other one is.
func (p *party) adds() {
	if p.leads < 0 || p.terms[p.leads] != p.term {
		return
	}
	l := p.logs[p.leads]
	last, term := entry.Last(l)
	p.added++
	got, err := entry.Add(l, p.term, p.draw.Intn(3), fmt.Append(nil, p.added))
	if err != nil {
		p.t.Fatalf("Add to %s: %v", shown(l), err)
	}
	p.logs[p.leads] = got
	p.made[[2]int{last + 1, p.term}] = got.L[len(got.L)-1]
	p.ahead[[2]int{last + 1, p.term}] = term
}

// sends lets the leader send to another one.
func (p *party) sends(to int) {
	if p.leads < 0 || p.leads == to || p.terms[p.leads] != p.term {
		return
	}
	l := p.logs[p.leads]
	m := sent{to: to, term: p.term, index: p.next[to] - 1, commit: p.commits[p.leads]}
	if m.index < l.Base {
		m.index, m.ahead, m.text = l.Base, l.Term, true
	} else {
		ahead, err := entry.Term(l, m.index)
		if err != nil {
			p.t.Fatalf("Term of %s, %d: %v", shown(l), m.index, err)
		}
		m.ahead, m.more = ahead, entry.From(l, p.next[to], p.draw.Intn(5))
	}
	p.way = append(p.way, m)
}

// arrives takes one of what is on its way, early or late, and may leave it there to come again.
func (p *party) arrives() {
	if len(p.way) == 0 {
		return
	}
	i := p.draw.Intn(len(p.way))
	m := p.way[i]
	switch p.draw.Intn(6) {
	case 0:
		p.seen["doubled"]++
	case 1:
		p.seen["lost"]++
		p.way = append(p.way[:i], p.way[i+1:]...)
		return
	default:
		p.way = append(p.way[:i], p.way[i+1:]...)
	}
	if m.term < p.terms[m.to] {
		p.seen["late"]++
		return
	}
	p.terms[m.to] = m.term
	last, ok := p.takes(m)
	if p.leads < 0 || m.term != p.term || p.terms[p.leads] != p.term {
		return
	}
	if !ok {
		p.next[m.to] = max(min(last+1, p.next[m.to]-1), p.match[m.to]+1)
		return
	}
	p.match[m.to] = max(p.match[m.to], last)
	p.next[m.to] = max(p.next[m.to], last+1)
	p.commit()
}

// takes lets a member take what was sent.
func (p *party) takes(m sent) (int, bool) {
	l := p.logs[m.to]
	if m.text {
		if m.index <= p.commits[m.to] {
			return m.index, true
		}
		p.seen["text"]++
		if term, err := entry.Term(l, m.index); err == nil && term == m.ahead {
			p.logs[m.to], _ = entry.Compact(l, m.index)
		} else {
			p.logs[m.to] = entry.Log{Base: m.index, Term: m.ahead}
		}
		p.commits[m.to] = m.index
		return m.index, true
	}
	before, _ := entry.Last(l)
	got, last, ok := entry.Merge(l, m.index, m.ahead, m.more)
	after, _ := entry.Last(got)
	if !ok {
		p.seen["not merged"]++
		isLog(p.t, "Merge that is none", got, l)
		return last, false
	}
	if after < before || listed(got.L[:len(l.L)]) != listed(l.L) {
		p.seen["other entries gone"]++
	}
	if m.index < l.Base && len(m.more) > 0 {
		p.seen["over Base"]++
	}
	p.seen["merged"]++
	p.logs[m.to] = got
	p.commits[m.to] = max(p.commits[m.to], min(m.commit, last))
	return last, true
}

// commit lets the leader commit what a majority has of its term.
func (p *party) commit() {
	l := p.logs[p.leads]
	last, _ := entry.Last(l)
	for index := last; index > p.commits[p.leads]; index-- {
		has := 1
		for other := range p.match {
			if other != p.leads && p.match[other] >= index {
				has++
			}
		}
		if term, err := entry.Term(l, index); err == nil && term == p.term && has*2 > len(p.logs) {
			p.seen["committed"]++
			p.commits[p.leads] = index
		}
	}
}

// compacts lets a member let go of some that are committed.
func (p *party) compacts(id int) {
	l := p.logs[id]
	if p.commits[id] <= l.Base {
		return
	}
	p.seen["let go"]++
	got, err := entry.Compact(l, l.Base+1+p.draw.Intn(p.commits[id]-l.Base))
	if err != nil {
		p.t.Fatalf("Compact of %s: %v", shown(l), err)
	}
	p.logs[id] = got
}

// step lets something happen.
func (p *party) step() {
	id := p.draw.Intn(len(p.logs))
	switch n := p.draw.Intn(100); {
	case n < 4:
		p.stands(id)
	case n < 15:
		p.adds()
	case n < 50:
		p.sends(id)
	case n < 93:
		p.arrives()
	default:
		p.compacts(id)
	}
}

// asMade looks at each entry of each log: it is as its leader added it, behind one of the same term as there.
func (p *party) asMade() {
	p.t.Helper()
	for _, l := range p.logs {
		if err := entry.Check(l); err != nil {
			p.t.Fatalf("Check of %s: %v", shown(l), err)
		}
		ahead := l.Term
		for _, e := range l.L {
			key := [2]int{e.Index, e.Term}
			if told(e) != told(p.made[key]) || ahead != p.ahead[key] {
				p.t.Fatalf("%s: %s, made as %s behind the term %d", shown(l), told(e), told(p.made[key]), p.ahead[key])
			}
			ahead = e.Term
		}
	}
}

// agree looks at two logs: behind both bases all up to the last entry that they share is the same.
func (p *party) agree(a, b entry.Log) {
	p.t.Helper()
	shared := false
	for i := len(a.L) - 1; i >= 0; i-- {
		e := a.L[i]
		other, err := entry.At(b, e.Index)
		if err != nil {
			continue
		}
		if shared && told(e) != told(other) {
			p.t.Fatalf("%s and %s are not the same at %d", shown(a), shown(b), e.Index)
		}
		if !shared && e.Term == other.Term {
			shared = true
			p.seen["shared"]++
		} else if !shared {
			p.seen["other behind"]++
		}
	}
	for _, x := range [][2]entry.Log{{a, b}, {b, a}} {
		if term, err := entry.Term(x[1], x[0].Base); shared && err == nil && term != x[0].Term {
			p.t.Fatalf("%s and %s are not the same at %d", shown(a), shown(b), x[0].Base)
		}
	}
}

// TestEN4: logs made by Merge and Add as leaders make them, with what they send lost, doubled and late, and some let go: of an entry of the same index and term all ahead of it is the same.
func TestEN4(t *testing.T) {
	draw := rand.New(rand.NewSource(4))
	seen := map[string]int{}
	for run := range 160 {
		p := newParty(t, draw, 2+run%4)
		for range 600 {
			p.step()
			p.asMade()
		}
		for _, a := range p.logs {
			for _, b := range p.logs {
				p.agree(a, b)
			}
		}
		for name, n := range p.seen {
			seen[name] += n
		}
	}
	for _, name := range []string{"no vote", "no majority", "leads", "doubled", "lost", "late", "text", "not merged", "other entries gone", "over Base", "merged", "committed", "let go", "shared", "other behind"} {
		if seen[name] < 30 {
			t.Errorf("%s: %d times, of %v", name, seen[name], seen)
		}
	}
}

// TestEN4Back: two logs that differ from early on are brought together by what Merge tells: a term at a time.
func TestEN4Back(t *testing.T) {
	var lead, other entry.Log
	for _, term := range []int{1, 1, 1, 4, 4, 5, 5, 6, 6, 6} {
		lead = adds(t, lead, term, entry.Order, fmt.Sprint(term))
	}
	for _, term := range []int{1, 1, 1, 2, 2, 2, 3, 3, 3, 3, 3} {
		other = adds(t, other, term, entry.Order, fmt.Sprint(term))
	}
	asks := []int{}
	next, _ := entry.Last(lead)
	for {
		ahead, err := entry.Term(lead, next)
		if err != nil {
			t.Fatal(err)
		}
		asks = append(asks, next)
		got, last, ok := entry.Merge(other, next, ahead, entry.From(lead, next+1, api.MaxList))
		other = got
		if ok {
			break
		}
		next = min(last, next-1)
	}
	if got := fmt.Sprint(asks); got != "[10 6 3]" {
		t.Errorf("Asked at %s", got)
	}
	isLog(t, "The other one", other, lead)
}

package entry_test

import (
	"fmt"
	"math/rand"
	"testing"

	"tollbar/api"
	"tollbar/entry"
)

// plain is a log as a map of its entries, merged one entry after the other.
type plain struct {
	base, term, last int
	at               map[int]entry.Entry
}

// plainOf is a log as such.
func plainOf(l entry.Log) *plain {
	p := &plain{base: l.Base, term: l.Term, last: l.Base, at: map[int]entry.Entry{}}
	for _, e := range l.L {
		p.at[e.Index], p.last = e, e.Index
	}
	return p
}

// log is it as a log again.
func (p *plain) log() entry.Log {
	l := entry.Log{Base: p.base, Term: p.term}
	for i := p.base + 1; i <= p.last; i++ {
		l.L = append(l.L, p.at[i])
	}
	return l
}

// stands tells whether entries could stand behind an index and a term.
func stands(index, term int, more []entry.Entry) bool {
	for i, e := range more {
		if e.Index != index+1+i || e.Term < term || i > 0 && e.Term < more[i-1].Term || e.Index > api.MaxIndex || e.Term > api.MaxIndex || e.Term < 1 || e.Kind < 0 || e.Kind > 2 {
			return false
		}
	}
	return true
}

// merge is the chapter's rule, word by word, and which of its ways was gone.
func (p *plain) merge(index, term int, more []entry.Entry) (int, bool, string) {
	if index < 0 || !stands(index, term, more) {
		return 0, false, "no more"
	}
	if index > p.last {
		return p.last, false, "above"
	}
	if index > p.base && p.at[index].Term != term {
		there := p.at[index].Term
		for index > p.base && p.at[index].Term == there {
			index--
		}
		return index, false, "other"
	}
	way, last := "there", max(index, p.base)
	for _, e := range more {
		if e.Index <= p.base {
			continue
		}
		has, ok := p.at[e.Index]
		if ok && has.Term != e.Term {
			for p.last >= e.Index {
				delete(p.at, p.last)
				p.last--
			}
			ok, way = false, "differs"
		}
		if !ok {
			if way == "there" {
				way = "behind"
			}
			p.at[e.Index], p.last = e, e.Index
		}
		last = e.Index
	}
	if p.last > p.base && p.at[p.base+1].Term < p.term {
		return 0, false, "falls"
	}
	return last, true, way
}

// drawLog draws a log that may be, of few entries and terms.
func drawLog(draw *rand.Rand) entry.Log {
	l := entry.Log{}
	if draw.Intn(3) > 0 {
		l.Base, l.Term = 1+draw.Intn(4), 1+draw.Intn(3)
	}
	l.L = drawRow(draw, l.Base, max(l.Term, 1), draw.Intn(7))
	return l
}

// drawRow draws entries behind an index, from a term on.
func drawRow(draw *rand.Rand, index, term, n int) []entry.Entry {
	var l []entry.Entry
	for i := range n {
		if draw.Intn(3) == 0 {
			term += 1 + draw.Intn(2)
		}
		e := of(index+1+i, term)
		e.Data = fmt.Append(e.Data, draw.Intn(3))
		l = append(l, e)
	}
	return l
}

// drawMore draws what is to be merged to a log: some of its own, of another one, or what may not be.
func drawMore(draw *rand.Rand, l entry.Log) (int, int, []entry.Entry) {
	last, _ := entry.Last(l)
	index := draw.Intn(last+4) - 1
	term, err := entry.Term(l, index)
	if err != nil || draw.Intn(4) == 0 {
		term = draw.Intn(4)
	}
	var more []entry.Entry
	if draw.Intn(2) == 0 {
		more = copied(entry.From(l, index+1, draw.Intn(5)))
	}
	if n := len(more); n > 0 && draw.Intn(2) == 0 {
		more = more[:draw.Intn(n)]
	}
	at, from := index, max(term, 1)
	if n := len(more); n > 0 {
		at, from = more[n-1].Index, more[n-1].Term
	}
	more = append(more, drawRow(draw, at, from, draw.Intn(5))...)
	if n := len(more); n > 0 && draw.Intn(10) == 0 {
		more[draw.Intn(n)].Index++
	}
	if n := len(more); n > 0 && draw.Intn(10) == 0 {
		more[draw.Intn(n)].Term -= draw.Intn(3)
	}
	return index, term, more
}

// TestEN2Drawn: drawn logs, and what is drawn to be merged, held against a plain one that goes entry by entry.
func TestEN2Drawn(t *testing.T) {
	draw := rand.New(rand.NewSource(9))
	ways := map[string]int{}
	for range 60000 {
		l := drawLog(draw)
		index, term, more := drawMore(draw, l)
		p := plainOf(l)
		last, ok, way := p.merge(index, term, more)
		ways[way]++
		want := l
		if ok {
			want = p.log()
		}
		m := merge{l, index, term, more, want, last, ok}
		m.merges(t)
		if t.Failed() {
			return
		}
	}
	for _, way := range []string{"no more", "above", "other", "there", "behind", "differs", "falls"} {
		if ways[way] < 300 {
			t.Errorf("%s: %d times of %v", way, ways[way], ways)
		}
	}
}

// TestEN1Drawn: of each log that was merged, added to and let go of in turn each call tells what the plain one has.
func TestEN1Drawn(t *testing.T) {
	draw := rand.New(rand.NewSource(10))
	for range 300 {
		l := drawLog(draw)
		for range 40 {
			l = drawStep(t, draw, l)
			if err := entry.Check(l); err != nil {
				t.Fatalf("Check of %s: %v", shown(l), err)
			}
			holds(t, l)
		}
	}
}

// drawStep draws a call that changes a log.
func drawStep(t *testing.T, draw *rand.Rand, l entry.Log) entry.Log {
	t.Helper()
	last, term := entry.Last(l)
	switch draw.Intn(4) {
	case 0, 1:
		return adds(t, l, max(term, 1)+draw.Intn(2), draw.Intn(3), fmt.Sprint(draw.Intn(9)))
	case 2:
		index, term, more := drawMore(draw, l)
		got, _, _ := entry.Merge(l, index, term, more)
		return got
	}
	index := l.Base + draw.Intn(last-l.Base+1)
	got, err := entry.Compact(l, index)
	if err != nil {
		t.Fatalf("Compact of %s, %d: %v", shown(l), index, err)
	}
	return got
}

// holds looks at what the calls tell of a log, about its bounds.
func holds(t *testing.T, l entry.Log) {
	t.Helper()
	p := plainOf(l)
	term := l.Term
	if p.last > l.Base {
		term = p.at[p.last].Term
	}
	if index, got := entry.Last(l); index != p.last || got != term {
		t.Fatalf("Last of %s: %d, %d", shown(l), index, got)
	}
	for index := -1; index <= p.last+1; index++ {
		want := p.at[index]
		if index == l.Base {
			want.Term = l.Term
		}
		_, there := p.at[index]
		if got, err := entry.Term(l, index); got != want.Term || (err == nil) != (there || index == l.Base) {
			t.Fatalf("Term of %s, %d: %d, %v", shown(l), index, got, err)
		}
		if got, err := entry.At(l, index); there && told(got) != told(want) || (err == nil) != there {
			t.Fatalf("At of %s, %d: %s, %v", shown(l), index, told(got), err)
		}
		if !entry.Newer(l, index, term+1) || entry.Newer(l, index, term) != (index >= p.last) || entry.Newer(l, index, term-1) {
			t.Fatalf("Newer of %s, %d", shown(l), index)
		}
	}
}

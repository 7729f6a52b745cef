package raft_test

import (
	"fmt"
	"math/rand"
	"slices"
	"strings"
	"testing"

	"tollbar/conf"
	"tollbar/entry"
	"tollbar/msg"
	"tollbar/raft"
)

// link is what an entry of an index and a term is everywhere, and the term of the one ahead of it.
type link struct {
	kind, before int
	data         string
}

// begun is a leader's log when it began to lead.
type begun struct {
	who, term int
	log       entry.Log
}

// asked is a read: what was committed anywhere when it was asked.
type asked struct{ who, term, round, index, most int }

// many are members that share a log, what is on its way between them, and what was seen.
type many struct {
	*rand.Rand
	t       *testing.T
	span    int
	first   conf.Conf
	c       []*raft.Core // the member n stands at n
	way     []msg.Msg
	begun   map[int]begun // by term
	done    []entry.Entry // what is committed; the index n stands at n
	doneIn  []int         // in which term
	links   map[[2]int]link
	commits []int
	asked   []asked
	lines   []string
	count   map[string]int
}

// newMany are members of which the first ones share a log.
func newMany(t *testing.T, seed, n, first int, count map[string]int) *many {
	y := &many{
		Rand: rand.New(rand.NewSource(int64(seed))), t: t, first: all(first), c: make([]*raft.Core, n+1),
		begun: map[int]begun{}, done: make([]entry.Entry, 1), doneIn: make([]int, 1), links: map[[2]int]link{}, commits: make([]int, n+1), count: count,
	}
	y.span = 2 + y.Intn(8)
	for who := 1; who <= n; who++ {
		y.c[who] = begin(t, who, y.span, raft.Stored{Conf: y.first}, y.Int())
	}
	y.say("seed %d: %d members, at first %d, a span of %d", seed, n, first, y.span)
	return y
}

func (y *many) say(format string, what ...any) {
	y.lines = append(y.lines, short(fmt.Sprintf(format, what...)))
}

func (y *many) fail(format string, what ...any) {
	y.t.Helper()
	y.t.Log(y.lines[0])
	for _, s := range y.lines[max(1, len(y.lines)-15):] {
		y.t.Log(s)
	}
	for who := 1; who < len(y.c); who++ {
		y.t.Logf("%d: %s", who, short(shown(y.c[who])))
	}
	y.t.Fatal(short(fmt.Sprintf(format, what...)))
}

// membersAt are the members as of a committed index.
func (y *many) membersAt(index int) conf.Conf {
	for ; index > 0; index-- {
		if y.done[index].Kind == entry.Member {
			l, _ := conf.Decode(y.done[index].Data)
			return l
		}
	}
	return y.first
}

// snapAt is a text that tells what was committed up to an index, of more than one piece.
func (y *many) snapAt(index int) []byte {
	var b strings.Builder
	for _, e := range y.done[1 : index+1] {
		fmt.Fprintf(&b, "%d/%d:%d:%q;", e.Index, e.Term, e.Kind, e.Data)
	}
	return []byte(b.String() + strings.Repeat(".", index%3*700))
}

// look holds a member against what was seen of all.
func (y *many) look(who int) {
	y.t.Helper()
	s, v := y.c[who].Stored(), y.c[who].View()
	y.lookLog(who, s.Log)
	if v.Role == raft.Leader {
		y.lookLeader(who, s)
	}
	y.lookDone(who, s, v.Commit)
	y.lookReads()
}

// lookLog: two logs that have an entry of the same index and term are the same up to it.
func (y *many) lookLog(who int, l entry.Log) {
	before := l.Term
	for _, e := range l.L {
		at, now := [2]int{e.Index, e.Term}, link{e.Kind, before, string(e.Data)}
		if was, ok := y.links[at]; ok && was != now {
			y.fail("%d has another entry %v: %v, not %v", who, at, now, was)
		}
		y.links[at] = now
		before = e.Term
	}
}

// lookLeader: one in a term, with all that was committed in the terms ahead.
func (y *many) lookLeader(who int, s raft.Stored) {
	b, ok := y.begun[s.Term]
	if ok && b.who != who {
		y.fail("in the term %d both %d and %d lead", s.Term, b.who, who)
	}
	if ok {
		return
	}
	y.count["leaders"]++
	b = begun{who, s.Term, s.Log}
	y.begun[s.Term] = b
	for index := range y.done {
		y.lookHas(b, index)
	}
}

// lookHas: a leader has what was committed in a term ahead of its own.
func (y *many) lookHas(b begun, index int) {
	if index <= b.log.Base || y.doneIn[index] >= b.term {
		return
	}
	if e, err := entry.At(b.log, index); err != nil || e.Term != y.done[index].Term {
		y.fail("%d, which leads in the term %d, has not %d/%d", b.who, b.term, index, y.done[index].Term)
	}
}

// lookDone: what is committed is the same for all, and stays; a text is of what was let go.
func (y *many) lookDone(who int, s raft.Stored, commit int) {
	if commit < y.commits[who] {
		y.fail("%d has committed %d, and had %d", who, commit, y.commits[who])
	}
	y.commits[who] = commit
	for _, e := range s.Log.L {
		if e.Index > commit {
			break
		}
		if e.Index == len(y.done) {
			y.count["committed"]++
			y.done, y.doneIn = append(y.done, e), append(y.doneIn, s.Term)
			for _, b := range y.begun {
				y.lookHas(b, e.Index)
			}
		}
		if e.Index > len(y.done) || shownEntries([]entry.Entry{e}) != shownEntries(y.done[e.Index:e.Index+1]) {
			y.fail("%d has committed%s", who, shownEntries([]entry.Entry{e}))
		}
	}
	base := s.Log.Base
	if base >= len(y.done) || s.Log.Term != y.done[base].Term || base > 0 && string(s.Snap) != string(y.snapAt(base)) || !slices.Equal(s.Conf, y.membersAt(base)) {
		y.fail("%d begins behind %d/%d, with %v and %q", who, base, s.Log.Term, s.Conf, s.Snap)
	}
}

// lookReads: a round that was heard tells that nothing more was committed anywhere when it was asked for.
func (y *many) lookReads() {
	y.asked = slices.DeleteFunc(y.asked, func(a asked) bool {
		c := y.c[a.who]
		if c.Stored().Term != a.term || c.View().Role != raft.Leader {
			return true
		}
		if !c.Heard(a.round) {
			return false
		}
		y.count["reads"]++
		if a.index < a.most {
			y.fail("%d has heard of %v", a.who, a)
		}
		return true
	})
}

// again begins a member again with what it kept.
func (y *many) again(who int, s raft.Stored) {
	y.count["begun again"]++
	y.c[who] = begin(y.t, who, y.span, s, y.Int())
	y.commits[who] = s.Log.Base
	y.asked = slices.DeleteFunc(y.asked, func(a asked) bool { return a.who == who })
}

// do does something with a member: what it tells is on its way, but where it crashes.
func (y *many) do(who int, step func(c *raft.Core) []msg.Msg) {
	y.t.Helper()
	kept := y.c[who].Stored()
	reads := len(y.asked)
	l := step(y.c[who])
	crash := y.Intn(150)
	if crash == 0 { // ahead of the step's being saved: it has not been
		y.say("%d begins again, with what it kept ahead", who)
		y.asked = y.asked[:reads]
		y.again(who, kept)
		y.look(who)
		return
	}
	y.look(who)
	switch crash {
	case 1:
		y.say("%d begins again, and tells nothing", who)
		y.again(who, y.c[who].Stored())
	case 2:
		y.say("%d begins again", who)
		y.again(who, y.c[who].Stored())
		y.way = append(y.way, l...)
	default:
		y.way = append(y.way, l...)
	}
	y.look(who)
}

// deliver delivers the message at a place.
func (y *many) deliver(at int) {
	m := y.way[at]
	y.way = slices.Delete(y.way, at, at+1)
	y.hand(m)
}

// hand hands a message over.
func (y *many) hand(m msg.Msg) {
	if m.To >= len(y.c) {
		return
	}
	y.count["kind "+fmt.Sprint(m.Kind)]++
	y.say("Step %s", shownMsg(m))
	draw := y.Int()
	y.do(m.To, func(c *raft.Core) []msg.Msg { return c.Step(m, draw) })
}

// turn does one thing of those that can happen.
func (y *many) turn(loss int) {
	who := 1 + y.Intn(len(y.c)-1)
	draw := y.Int()
	switch n := y.Intn(100); {
	case n < 25:
		y.say("Tick %d", who)
		y.do(who, func(c *raft.Core) []msg.Msg { return c.Tick(draw) })
	case n < 85 && len(y.way) > 0:
		at := y.Intn(min(len(y.way), 1+y.Intn(30)))
		switch {
		case y.Intn(100) < loss || len(y.way) > 300:
			y.way = slices.Delete(y.way, at, at+1)
		case y.Intn(100) < 10:
			y.hand(y.way[at]) // and once more, later
		default:
			y.deliver(at)
		}
	case n < 93:
		y.do(who, func(c *raft.Core) []msg.Msg { return y.propose(who, c) })
	case n < 96:
		y.compact(who)
	case n < 99:
		y.do(who, func(c *raft.Core) []msg.Msg {
			round, index, l, err := c.Read()
			if err == nil {
				y.asked = append(y.asked, asked{who, c.Stored().Term, round, index, len(y.done) - 1})
			}
			return l
		})
	}
}

// propose proposes an Order, or members that are near.
func (y *many) propose(who int, c *raft.Core) []msg.Msg {
	kind, data := entry.Order, fmt.Appendf(nil, "%d by %d", len(y.lines), who)
	if y.Intn(5) == 0 {
		l, other := c.Conf(), 1+y.Intn(len(y.c)-1)
		if conf.Has(l, other) {
			l, _ = conf.Remove(l, other)
		} else {
			l, _ = conf.Add(l, other)
		}
		kind, data = entry.Member, conf.Encode(l)
	}
	_, told, err := c.Propose(kind, data)
	if err == nil {
		y.count[fmt.Sprintf("proposed %d", kind)]++
		y.say("Propose %d %d %q", who, kind, data)
	}
	return told
}

// compact lets some go of what a member has committed.
func (y *many) compact(who int) {
	c := y.c[who]
	base, commit := c.Stored().Log.Base, c.View().Commit
	if commit == base {
		return
	}
	index := base + 1 + y.Intn(commit-base)
	y.say("Compact %d %d", who, index)
	y.count["let go"]++
	if err := c.Compact(index, y.snapAt(index)); err != nil {
		y.fail("Compact of %d: %v", index, err)
	}
	y.look(who)
}

// counts tells whether a member is heard still where who left is not: whether it is one by what is committed, or by one of those.
func (y *many) counts(who int) bool {
	now := y.membersAt(len(y.done) - 1)
	return slices.Contains(now, who) || slices.ContainsFunc(now, func(other int) bool { return slices.Contains(y.c[other].Conf(), who) })
}

// leader is who leads in the latest term of those in which somebody does; 0: nobody leads.
func (y *many) leader() int {
	last, term := 0, 0
	for who := 1; who < len(y.c); who++ {
		if s := y.c[who].Stored(); y.c[who].View().Role == raft.Leader && s.Term > term {
			last, term = who, s.Term
		}
	}
	return last
}

// calm tells whether the leader has committed all, and all its members know.
func (y *many) calm() bool {
	who := y.leader()
	if who == 0 {
		return false
	}
	v, l := y.c[who].View(), y.c[who].Conf()
	last, _ := entry.Last(y.c[who].Stored().Log)
	lags := func(other int) bool {
		o := y.c[other].View()
		return o.Leader != who || o.Commit != v.Commit
	}
	return v.Commit == last && !slices.ContainsFunc(l, lags)
}

// settle lets time go on with nothing lost, till all is calm; then a leader's entry is committed by all.
func (y *many) settle() {
	y.t.Helper()
	for n := 0; !y.calm(); n++ {
		if n > 2000 {
			y.fail("it is not calm behind %d ticks", n)
		}
		for who := 1; who < len(y.c); who++ {
			draw := y.Int()
			y.way = append(y.way, y.c[who].Tick(draw)...)
			y.look(who)
		}
		for i := 0; len(y.way) > 0 && i < 1000; i++ {
			m := y.way[0]
			y.way = y.way[1:]
			if m.To < len(y.c) && y.counts(m.From) {
				y.way = append(y.way, y.c[m.To].Step(m, y.Int())...)
				y.look(m.To)
			}
		}
	}
	y.count["calm"]++
}

// run lets much happen, then lets it settle, some times.
func (y *many) run(turns int) {
	y.t.Helper()
	for range 3 {
		loss := []int{0, 10, 30}[y.Intn(3)]
		for range turns {
			y.turn(loss)
		}
		y.settle()
		who := y.leader()
		index, l, err := y.c[who].Propose(entry.Order, []byte("at last"))
		y.way = append(y.way, l...)
		y.look(who)
		if err != nil {
			y.fail("Propose: %v", err)
		}
		if y.settle(); len(y.done) <= index || string(y.done[index].Data) != "at last" {
			y.fail("what was asked for at last is not committed")
		}
	}
}

// TestRA5Many: whatever is lost, doubled, late and out of order, whoever joins, leaves and begins again.
func TestRA5Many(t *testing.T) {
	count := map[string]int{}
	for seed := range 120 {
		first := 1 + seed%5
		y := newMany(t, seed, min(first+seed/5%3, 7), first, count)
		y.run(400)
	}
	for what, n := range map[string]int{
		"leaders": 500, "committed": 2000, "begun again": 500, "let go": 500, "reads": 200, "calm": 360, "proposed 1": 1000, "proposed 2": 100,
		"kind 1": 500, "kind 2": 500, "kind 3": 2000, "kind 4": 2000, "kind 5": 200, "kind 6": 200,
	} {
		if count[what] < n {
			t.Errorf("%s: %d times alone", what, count[what])
		}
		t.Logf("%s: %d", what, count[what])
	}
}

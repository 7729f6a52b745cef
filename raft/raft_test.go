package raft_test

import (
	"bytes"
	"fmt"
	"math"
	"slices"
	"strings"
	"testing"

	"tollbar/api"
	"tollbar/conf"
	"tollbar/entry"
	"tollbar/msg"
	"tollbar/raft"
)

// short is a text of which the midst is left out where it is long.
func short(s string) string {
	if len(s) <= 600 {
		return s
	}
	return fmt.Sprintf("%s..(%d)..%s", s[:300], len(s), s[len(s)-300:])
}

// logOf is a log of Orders of some terms, behind an index and a term; each one's data tells its term and index.
func logOf(base, term int, terms ...int) entry.Log {
	l := entry.Log{Base: base, Term: term}
	for i, term := range terms {
		l.L = append(l.L, orderOf(base+1+i, term))
	}
	return l
}

// orderOf is an Order of an index and a term.
func orderOf(index, term int) entry.Entry {
	return entry.Entry{Index: index, Term: term, Kind: entry.Order, Data: fmt.Appendf(nil, "%d/%d", term, index)}
}

// emptyOf is the entry that a leader begins its term with.
func emptyOf(index, term int) entry.Entry { return entry.Entry{Index: index, Term: term} }

// memberOf is an entry that tells members.
func memberOf(index, term int, who ...int) entry.Entry {
	return entry.Entry{Index: index, Term: term, Kind: entry.Member, Data: conf.Encode(who)}
}

// with is a log with entries behind.
func with(l entry.Log, more ...entry.Entry) entry.Log {
	l.L = slices.Concat(l.L, more)
	return l
}

// shownEntries are entries as a text.
func shownEntries(l []entry.Entry) string {
	var b strings.Builder
	for _, e := range l {
		fmt.Fprintf(&b, " %d/%d:%d:%q", e.Index, e.Term, e.Kind, e.Data)
	}
	return b.String()
}

// shownStored is what is kept, as a text.
func shownStored(s raft.Stored) string {
	return fmt.Sprintf("term %d vote %d log %d/%d%s conf %v snap %q", s.Term, s.Vote, s.Log.Base, s.Log.Term, shownEntries(s.Log.L), s.Conf, s.Snap)
}

// shownView is what a member is like, as a text.
func shownView(v raft.View) string {
	return fmt.Sprintf("role %d leader %d commit %d round %d", v.Role, v.Leader, v.Commit, v.Round)
}

// shown is all that can be seen of a member.
func shown(c *raft.Core) string {
	return fmt.Sprintf("%s; %s; %v", shownView(c.View()), shownStored(c.Stored()), c.Conf())
}

// shownMsg is a message as a text.
func shownMsg(m msg.Msg) string {
	kinds := []string{"?", "Vote", "Voted", "Append", "Added", "Piece", "Pieced"}
	return fmt.Sprintf("%s %d>%d term %d at %d/%d commit %d round %d %v off %d data %q%s", kinds[max(0, min(m.Kind, 6))], m.From, m.To, m.Term, m.Index, m.LogTerm, m.Commit, m.Round, m.OK, m.Off, m.Data, shownEntries(m.Entries))
}

// shownMsgs are messages as lines.
func shownMsgs(l []msg.Msg) string {
	var b strings.Builder
	for _, m := range l {
		b.WriteString("\n  " + shownMsg(m))
	}
	return b.String()
}

// tells looks at what was told, and at that each of it may be.
func tells(t *testing.T, what string, got []msg.Msg, want ...msg.Msg) {
	t.Helper()
	if g, w := shownMsgs(got), shownMsgs(want); g != w {
		t.Errorf("%s tells%s\nnot%s", what, short(g), short(w))
	}
	for _, m := range got {
		if err := msg.Check(m); err != nil {
			t.Errorf("%s tells what may not be: %s", what, short(shownMsg(m)))
		}
	}
}

// is looks at what a member is like.
func is(t *testing.T, what string, c *raft.Core, want raft.View) {
	t.Helper()
	if got := c.View(); got != want {
		t.Errorf("%s: %s, not %s", what, shownView(got), shownView(want))
	}
}

// keeps looks at what a member keeps.
func keeps(t *testing.T, what string, c *raft.Core, want raft.Stored) {
	t.Helper()
	if g, w := shownStored(c.Stored()), shownStored(want); g != w {
		t.Errorf("%s keeps\n  %s, not\n  %s", what, short(g), short(w))
	}
}

// members looks at a member's conf.
func members(t *testing.T, what string, c *raft.Core, want ...int) {
	t.Helper()
	if got := c.Conf(); !slices.Equal(got, want) {
		t.Errorf("%s: the members are %v, not %v", what, got, want)
	}
}

// begin makes a member, and must.
func begin(t *testing.T, id, span int, s raft.Stored, draw int) *raft.Core {
	t.Helper()
	c, err := raft.New(id, span, s, draw)
	if err != nil {
		t.Fatalf("New of %d, %d, %s, %d: %v", id, span, short(shownStored(s)), draw, err)
	}
	return c
}

// all are the members from 1 to a number.
func all(n int) conf.Conf {
	var l conf.Conf
	for who := range n {
		l = append(l, who+1)
	}
	return l
}

// wrongs are numbers that are neither a count nor an index.
func wrongs() []int {
	return []int{math.MinInt, -api.MaxIndex, -1, api.MaxIndex + 1, math.MaxInt}
}

// refused looks at a New that must fail.
func refused(t *testing.T, what string, id, span int, s raft.Stored) {
	t.Helper()
	for _, draw := range []int{0, 3, -1, math.MinInt} {
		if c, err := raft.New(id, span, s, draw); c != nil || err != api.ErrArg {
			t.Errorf("New with %s: %v, %v", what, c != nil, err)
		}
	}
}

// TestRA1Example: the document's example.
func TestRA1Example(t *testing.T) {
	c := begin(t, 1, 4, raft.Stored{Conf: all(1)}, 0)
	is(t, "at first", c, raft.View{})
	for range 3 {
		tells(t, "a tick ahead of its wait", c.Tick(0))
		is(t, "ahead of its wait", c, raft.View{})
	}
	tells(t, "its wait", c.Tick(0))
	is(t, "at its wait", c, raft.View{Role: raft.Leader, Leader: 1, Commit: 1})
	keeps(t, "it", c, raft.Stored{Term: 1, Vote: 1, Log: with(entry.Log{}, emptyOf(1, 1)), Conf: all(1)})
}

// TestRoles: their numbers.
func TestRoles(t *testing.T) {
	if raft.Follower != 0 || raft.Candidate != 1 || raft.Leader != 2 {
		t.Errorf("%d, %d, %d", raft.Follower, raft.Candidate, raft.Leader)
	}
}

// TestRA1Numbers: each number just within what may be, and just beyond.
func TestRA1Numbers(t *testing.T) {
	some := raft.Stored{Term: 4, Vote: 2, Log: logOf(5, 3, 4), Conf: all(3)}
	for _, id := range []int{1, 2, 63, 64} {
		begin(t, id, 4, some, 0)
	}
	for _, span := range []int{2, 3, 999, 1000} {
		begin(t, 1, span, some, 0)
	}
	for _, id := range append(wrongs(), 0, 65, 66) {
		refused(t, fmt.Sprintf("the id %d", id), id, 4, some)
	}
	for _, span := range append(wrongs(), 0, 1, 1001, 1002) {
		refused(t, fmt.Sprintf("the span %d", span), 1, span, some)
	}
	for _, vote := range []int{0, 1, 63, 64} {
		s := some
		s.Vote = vote
		keeps(t, "it", begin(t, 1, 4, s, 0), s)
	}
	for _, vote := range append(wrongs(), 65, 66) {
		s := some
		s.Vote = vote
		refused(t, fmt.Sprintf("the vote %d", vote), 1, 4, s)
	}
}

// TestRA1Term: a term from the last entry's on.
func TestRA1Term(t *testing.T) {
	logs := map[int]entry.Log{
		0: {}, 1: logOf(0, 0, 1), 3: {Base: 5, Term: 3}, 4: logOf(5, 3, 4), 9: logOf(5, 3, 3, 4, 4, 9),
		api.MaxIndex: logOf(5, 3, 3, api.MaxIndex), api.MaxIndex - 1: {Base: 1, Term: api.MaxIndex - 1},
	}
	for least, l := range logs {
		for _, term := range []int{least, min(least+1, api.MaxIndex), max(least, api.MaxIndex-1), api.MaxIndex} {
			s := raft.Stored{Term: term, Log: l, Conf: all(3)}
			keeps(t, "it", begin(t, 1, 4, s, 0), s)
		}
		for _, term := range append(wrongs(), least-1, least-2, -2) {
			refused(t, fmt.Sprintf("the term %d where the last entry's is %d", term, least), 1, 4, raft.Stored{Term: term, Log: l, Conf: all(3)})
		}
	}
}

// TestRA1Log: a log that may not be, and one with a Member entry that tells no members.
func TestRA1Log(t *testing.T) {
	for what, l := range map[string]entry.Log{
		"a Base without a term":   {Base: 1},
		"a term without a Base":   {Term: 1},
		"a Base below 0":          {Base: -1, Term: 1},
		"a Base too great":        {Base: api.MaxIndex + 1, Term: 1},
		"a gap":                   {L: []entry.Entry{orderOf(2, 1)}},
		"terms that fall":         logOf(0, 0, 2, 1),
		"a term below Term":       logOf(5, 3, 2),
		"an index twice":          {L: []entry.Entry{orderOf(1, 1), orderOf(1, 1)}},
		"a kind that is none":     {L: []entry.Entry{{Index: 1, Term: 1, Kind: 3}}},
		"data too long":           {L: []entry.Entry{{Index: 1, Term: 1, Data: make([]byte, 4097)}}},
		"one entry too many":      logOf(0, 0, slices.Repeat([]int{1}, api.MaxList+1)...),
		"an entry of the term 0":  {L: []entry.Entry{{Index: 1}}},
		"an index of another end": {Base: api.MaxIndex, Term: 1, L: []entry.Entry{orderOf(api.MaxIndex+1, 1)}},
	} {
		refused(t, what, 1, 4, raft.Stored{Term: api.MaxIndex, Log: l, Conf: all(3)})
	}
	begin(t, 1, 4, raft.Stored{Term: 1, Log: logOf(0, 0, slices.Repeat([]int{1}, api.MaxList)...), Conf: all(3)}, 0)
	good := memberOf(2, 1, 1, 2)
	for _, data := range []string{"", "x", "n0;", "n1;", "n1;n0;", "n1;n65;", "n2;n2;n1;", "n2;n1;n1;", "n1;n1;n", "n8;n1;n2;n3;n4;n5;n6;n7;n8;", " n1;n1;"} {
		for at := range 3 {
			l := with(logOf(0, 0, 1), good, memberOf(3, 1, 1))
			l.L[at].Kind, l.L[at].Data = entry.Member, []byte(data)
			refused(t, fmt.Sprintf("a Member entry of %q at %d", data, at), 1, 4, raft.Stored{Term: 1, Log: l, Conf: all(3)})
		}
	}
	for _, kind := range []int{entry.Empty, entry.Order} {
		l := with(logOf(0, 0, 1), entry.Entry{Index: 2, Term: 1, Kind: kind, Data: []byte("n0;")})
		begin(t, 1, 4, raft.Stored{Term: 1, Log: l, Conf: all(3)}, 0)
	}
}

// TestRA1KeptConf: a conf that may not be, also where a Member entry tells another one.
func TestRA1KeptConf(t *testing.T) {
	for _, l := range []conf.Conf{nil, {}, {0}, {-1}, {65}, {2, 1}, {1, 1}, {1, 2, 3, 4, 5, 6, 7, 8}} {
		refused(t, fmt.Sprintf("the conf %v", l), 1, 4, raft.Stored{Conf: l})
		refused(t, fmt.Sprintf("the conf %v", l), 1, 4, raft.Stored{Term: 1, Log: with(entry.Log{}, memberOf(1, 1, 1, 2)), Conf: l})
	}
	for _, l := range []conf.Conf{{1}, {64}, {1, 2, 3, 4, 5, 6, 64}} {
		members(t, "it", begin(t, 1, 4, raft.Stored{Conf: l}, 0), l...)
	}
}

// TestRA1New: what a new member is like, and keeps.
func TestRA1New(t *testing.T) {
	for _, s := range []raft.Stored{
		{Conf: all(3)},
		{Term: 7, Vote: 64, Conf: conf.Conf{2, 5}, Snap: []byte("abc")},
		{Term: 4, Vote: 1, Log: logOf(5, 3, 3, 4), Conf: all(1), Snap: []byte("\x00\xff")},
		{Term: 3, Log: entry.Log{Base: 5, Term: 3}, Conf: all(7)},
		{Term: api.MaxIndex, Log: entry.Log{Base: api.MaxIndex, Term: api.MaxIndex}, Conf: all(7)},
		{Conf: all(2), Snap: bytes.Repeat([]byte("x"), api.MaxBytes)},
	} {
		c := begin(t, 2, 4, s, 0)
		is(t, "a new one", c, raft.View{Commit: s.Log.Base})
		keeps(t, "a new one", c, s)
		members(t, "a new one", c, s.Conf...)
	}
}

// TestRA1Conf: the members are those of the last Member entry; of what was kept, where there is none.
func TestRA1Conf(t *testing.T) {
	for _, x := range []struct {
		l    entry.Log
		want conf.Conf
	}{
		{entry.Log{}, all(3)},
		{logOf(5, 3, 3, 4), all(3)},
		{with(logOf(5, 3), memberOf(6, 3, 1, 2)), conf.Conf{1, 2}},
		{with(logOf(5, 3, 3), memberOf(7, 3, 1, 2), orderOf(8, 4)), conf.Conf{1, 2}},
		{with(logOf(5, 3), memberOf(6, 3, 1, 2), memberOf(7, 3, 2)), conf.Conf{2}},
		{with(logOf(5, 3), memberOf(6, 3, 2), orderOf(7, 3), memberOf(8, 4, 2, 64), orderOf(9, 4)), conf.Conf{2, 64}},
	} {
		s := raft.Stored{Term: 4, Log: x.l, Conf: all(3)}
		c := begin(t, 1, 4, s, 0)
		members(t, "it", c, x.want...)
		keeps(t, "it", c, s)
	}
}

// TestNil: a member that is none answers ErrArg, and nothing.
func TestNil(t *testing.T) {
	var c *raft.Core
	tells(t, "Tick", c.Tick(3))
	tells(t, "Step", c.Step(msg.Msg{Kind: msg.Vote, From: 1, To: 2, Term: 3}, 3))
	for _, kind := range []int{-1, entry.Empty, entry.Order, entry.Member, 3} {
		if index, l, err := c.Propose(kind, conf.Encode(all(1))); index != 0 || len(l) > 0 || err != api.ErrArg {
			t.Errorf("Propose: %d, %v, %v", index, l, err)
		}
	}
	if round, index, l, err := c.Read(); round != 0 || index != 0 || len(l) > 0 || err != api.ErrArg {
		t.Errorf("Read: %d, %d, %v, %v", round, index, l, err)
	}
	if c.Heard(0) || c.Heard(1) {
		t.Error("Heard: true")
	}
	for _, index := range []int{-1, 0, 1} {
		if err := c.Compact(index, make([]byte, api.MaxBytes)); err != api.ErrArg {
			t.Errorf("Compact: %v", err)
		}
	}
	is(t, "none", c, raft.View{})
	keeps(t, "none", c, raft.Stored{})
	members(t, "none", c)
}

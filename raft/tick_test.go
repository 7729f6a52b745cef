package raft_test

import (
	"fmt"
	"math"
	"slices"
	"testing"

	"tollbar/api"
	"tollbar/conf"
	"tollbar/entry"
	"tollbar/msg"
	"tollbar/raft"
)

// silent lets ticks go that must tell nothing and change nothing.
func silent(t *testing.T, what string, c *raft.Core, n int) {
	t.Helper()
	before := shown(c)
	for i := range n {
		// Other draws than those that count: they must not.
		if l := c.Tick(n + 7*i); len(l) > 0 || shown(c) != before {
			t.Fatalf("%s: behind %d of %d ticks it tells%s\nand is %s, not %s", what, i+1, n, short(shownMsgs(l)), short(shown(c)), short(before))
		}
	}
}

// waits looks at how long a member waits till it stands, and lets it stand with a draw.
func waits(t *testing.T, what string, c *raft.Core, wait, draw int) []msg.Msg {
	t.Helper()
	silent(t, what, c, wait-1)
	term := c.Stored().Term
	l := c.Tick(draw)
	if got := c.Stored().Term; got != term+1 {
		t.Fatalf("%s: behind %d ticks it has the term %d, not %d", what, wait, got, term+1)
	}
	return l
}

// voted are votes that a member is told of: what it tells.
func voted(c *raft.Core, id int, from ...int) []msg.Msg {
	var l []msg.Msg
	for _, who := range from {
		l = append(l, c.Step(msg.Msg{Kind: msg.Voted, From: who, To: id, Term: c.Stored().Term, OK: true}, 0)...)
	}
	return l
}

// leading makes a member that leads by the votes of all others: what it told when it led.
func leading(t *testing.T, id, span int, s raft.Stored) (*raft.Core, []msg.Msg) {
	t.Helper()
	c := begin(t, id, span, s, 0)
	l := waits(t, "one that is to lead", c, span, 0)
	if c.View().Role != raft.Leader {
		l = voted(c, id, slices.DeleteFunc(c.Conf(), func(who int) bool { return who == id })...)
	}
	if c.View().Role != raft.Leader {
		t.Fatalf("it does not lead: %s", short(shown(c)))
	}
	return c, l
}

// added is an answer to an Append, OK or not, up to an index.
func added(c *raft.Core, id, from int, ok bool, index int) []msg.Msg {
	return c.Step(msg.Msg{Kind: msg.Added, From: from, To: id, Term: c.Stored().Term, OK: ok, Index: index}, 0)
}

// TestRA2Draws: the wait by each remainder, by draws below 0, and by the least and the greatest one.
func TestRA2Draws(t *testing.T) {
	type drawn struct{ span, draw, wait int }
	l := []drawn{
		{4, -1, 4}, {4, -2, 8}, {4, -5, 5}, {4, math.MinInt, 7}, {4, math.MaxInt, 6}, {4, math.MinInt + 1, 8},
		{2, -1, 2}, {2, -2, 4}, {2, math.MinInt, 4}, {2, math.MaxInt, 3},
		{3, -1, 6}, {3, math.MinInt, 3}, {3, math.MaxInt, 6},
	}
	for _, span := range []int{2, 3, 4, 5, 8} {
		for draw := range 3*span + 3 {
			l = append(l, drawn{span, draw, span + draw%(span+1)})
		}
	}
	l = append(l, drawn{1000, 0, 1000}, drawn{1000, 1000, 2000}, drawn{1000, 1001, 1000}, drawn{1000, 2000, 1999}, drawn{1000, 2001, 2000})
	for _, x := range l {
		c := begin(t, 1, x.span, raft.Stored{Conf: all(3)}, x.draw)
		what := fmt.Sprintf("a span of %d by %d", x.span, x.draw)
		waits(t, what, c, x.wait, x.draw)
		is(t, what, c, raft.View{Role: raft.Candidate})
		waits(t, what+", as a candidate", c, x.wait, 0)
		waits(t, what+", by 0 again", c, x.span, x.draw)
	}
}

// TestRA2Stands: a term more, its own vote, a new wait, and a Vote to each other one.
func TestRA2Stands(t *testing.T) {
	for _, x := range []struct {
		id          int
		log         entry.Log
		index, term int
	}{
		{1, entry.Log{}, 0, 0}, {2, logOf(0, 0, 1, 2, 2), 3, 2}, {3, entry.Log{Base: 5, Term: 3}, 5, 3}, {1, logOf(5, 3, 4), 6, 4},
	} {
		s := raft.Stored{Term: 7, Vote: 3, Log: x.log, Conf: conf.Conf{1, 2, 3, 60}, Snap: []byte("abc")}
		c := begin(t, x.id, 4, s, 2)
		told := waits(t, "it", c, 6, 1)
		for term := 8; term < 11; term++ {
			var want []msg.Msg
			for _, who := range s.Conf {
				if who != x.id {
					want = append(want, msg.Msg{Kind: msg.Vote, From: x.id, To: who, Term: term, Index: x.index, LogTerm: x.term})
				}
			}
			tells(t, "it", told, want...)
			is(t, "it", c, raft.View{Role: raft.Candidate, Commit: x.log.Base})
			s.Term, s.Vote = term, x.id
			keeps(t, "it", c, s)
			told = waits(t, "it", c, 5, 1)
		}
	}
}

// TestRA2KnowsNoLeader: who stands knows none any more.
func TestRA2KnowsNoLeader(t *testing.T) {
	c := begin(t, 1, 4, raft.Stored{Conf: all(3)}, 0)
	c.Step(msg.Msg{Kind: msg.Append, From: 2, To: 1, Term: 1}, 0)
	is(t, "ahead of its wait", c, raft.View{Leader: 2})
	waits(t, "it", c, 4, 0)
	is(t, "at its wait", c, raft.View{Role: raft.Candidate})
}

// TestRA2MaxIndex: at the greatest term nobody stands; at the one ahead of it, it does.
func TestRA2MaxIndex(t *testing.T) {
	c := begin(t, 1, 4, raft.Stored{Term: api.MaxIndex - 1, Conf: all(3)}, 1)
	waits(t, "a term ahead", c, 5, 0)
	is(t, "a term ahead", c, raft.View{Role: raft.Candidate})
	silent(t, "a candidate of the greatest term", c, 40)
	silent(t, "a follower of the greatest term", begin(t, 1, 4, raft.Stored{Term: api.MaxIndex, Conf: all(3)}, 0), 40)
	silent(t, "one alone of the greatest term", begin(t, 1, 4, raft.Stored{Term: api.MaxIndex, Conf: all(1)}, 0), 40)
	silent(t, "one that is out, of the greatest term", begin(t, 1, 4, raft.Stored{Term: api.MaxIndex, Log: with(entry.Log{}, memberOf(1, 1, 2)), Conf: all(2)}, 0), 40)
}

// TestRA2WhoStands: one of its conf, or one that was, as of the index ahead of a last Member entry that is not committed.
func TestRA2WhoStands(t *testing.T) {
	for what, x := range map[string]struct {
		s      raft.Stored
		commit int
		stands bool
	}{
		"one of what was kept":                     {raft.Stored{Conf: all(3)}, 0, true},
		"none of what was kept":                    {raft.Stored{Conf: conf.Conf{2, 3}}, 0, false},
		"one by its log":                           {raft.Stored{Conf: conf.Conf{2, 3}, Log: with(entry.Log{}, memberOf(1, 1, 1, 2, 3))}, 0, true},
		"one by its log, committed":                {raft.Stored{Conf: conf.Conf{2, 3}, Log: with(entry.Log{}, memberOf(1, 1, 1, 2, 3))}, 1, true},
		"out by its log":                           {raft.Stored{Conf: all(3), Log: with(entry.Log{}, memberOf(1, 1, 2, 3))}, 0, true},
		"out by its log, committed":                {raft.Stored{Conf: all(3), Log: with(entry.Log{}, memberOf(1, 1, 2, 3))}, 1, false},
		"out by its log, others behind":            {raft.Stored{Conf: all(3), Log: with(entry.Log{}, orderOf(1, 1), memberOf(2, 1, 2, 3), orderOf(3, 1))}, 1, true},
		"out by its log, committed, others behind": {raft.Stored{Conf: all(3), Log: with(entry.Log{}, orderOf(1, 1), memberOf(2, 1, 2, 3), orderOf(3, 1))}, 2, false},
		"out by two entries":                       {raft.Stored{Conf: all(3), Log: with(entry.Log{}, memberOf(1, 1, 2, 3), memberOf(2, 1, 2))}, 0, false},
		"out by the second of two":                 {raft.Stored{Conf: conf.Conf{5}, Log: with(entry.Log{}, memberOf(1, 1, 1, 2, 3), memberOf(2, 1, 2, 3))}, 0, true},
		"out by the second of two, one committed":  {raft.Stored{Conf: conf.Conf{5}, Log: with(entry.Log{}, memberOf(1, 1, 1, 2, 3), memberOf(2, 1, 2, 3))}, 1, true},
		"out by the second of two, both committed": {raft.Stored{Conf: conf.Conf{5}, Log: with(entry.Log{}, memberOf(1, 1, 1, 2, 3), memberOf(2, 1, 2, 3))}, 2, false},
		"out and never in":                         {raft.Stored{Conf: conf.Conf{2, 3}, Log: with(entry.Log{}, memberOf(1, 1, 2, 3, 4))}, 0, false},
		"out, in and out":                          {raft.Stored{Conf: all(3), Log: with(entry.Log{}, memberOf(1, 1, 2, 3), memberOf(2, 1, 1, 2, 3), memberOf(3, 1, 2, 3))}, 0, true},
		"behind a Base, out":                       {raft.Stored{Conf: all(3), Log: with(entry.Log{Base: 9, Term: 1}, memberOf(10, 1, 2, 3))}, 0, true},
		"behind a Base, none":                      {raft.Stored{Conf: conf.Conf{2, 3}, Log: logOf(9, 1, 1, 1)}, 0, false},
	} {
		x.s.Term = 1
		c := begin(t, 1, 4, x.s, 0)
		if x.commit > 0 {
			// An Append of nothing tells what is committed.
			c.Step(msg.Msg{Kind: msg.Append, From: 2, To: 1, Term: 1, Index: x.commit, LogTerm: 1, Commit: x.commit}, 0)
			is(t, what, c, raft.View{Leader: 2, Commit: x.commit})
		}
		if x.stands {
			waits(t, what, c, 4, 0)
			waits(t, what, c, 4, 0)
		} else {
			silent(t, what, c, 40)
		}
	}
}

// TestRA2Out: one that is out asks those that are in, and its own vote does not count; once it has committed that it is out, it leads no more.
func TestRA2Out(t *testing.T) {
	s := raft.Stored{Term: 1, Log: with(entry.Log{}, memberOf(1, 1, 2, 3)), Conf: all(3)}
	c := begin(t, 1, 4, s, 0)
	tells(t, "it", waits(t, "it", c, 4, 0),
		msg.Msg{Kind: msg.Vote, From: 1, To: 2, Term: 2, Index: 1, LogTerm: 1},
		msg.Msg{Kind: msg.Vote, From: 1, To: 3, Term: 2, Index: 1, LogTerm: 1})
	tells(t, "one of two votes", voted(c, 1, 2))
	is(t, "one of two votes", c, raft.View{Role: raft.Candidate})
	e := []entry.Entry{emptyOf(2, 2)}
	tells(t, "both votes", voted(c, 1, 3),
		msg.Msg{Kind: msg.Append, From: 1, To: 2, Term: 2, Index: 1, LogTerm: 1, Entries: e},
		msg.Msg{Kind: msg.Append, From: 1, To: 3, Term: 2, Index: 1, LogTerm: 1, Entries: e})
	is(t, "both votes", c, raft.View{Role: raft.Leader, Leader: 1})
	tells(t, "one of two that have it", added(c, 1, 2, true, 2))
	is(t, "one of two that have it", c, raft.View{Role: raft.Leader, Leader: 1})
	tells(t, "both that have it", added(c, 1, 3, true, 2))
	is(t, "both that have it", c, raft.View{Commit: 2})
	silent(t, "one that is out", c, 40)
	keeps(t, "one that is out", c, raft.Stored{Term: 2, Vote: 1, Log: with(s.Log, e...), Conf: all(3)})
}

// TestRA2Heart: a leader sends each time that a fourth of its span has gone, whatever it sent between.
func TestRA2Heart(t *testing.T) {
	for span, heart := range map[int]int{2: 1, 3: 1, 4: 1, 5: 1, 7: 1, 8: 2, 9: 2, 11: 2, 12: 3, 16: 4, 17: 4, 99: 24, 100: 25, 999: 249, 1000: 250} {
		c, _ := leading(t, 1, span, raft.Stored{Conf: all(3)})
		what := fmt.Sprintf("a span of %d", span)
		send := func(who, commit, round int, l ...entry.Entry) msg.Msg {
			m := msg.Msg{Kind: msg.Append, From: 1, To: who, Term: 1, Commit: commit, Round: round, Entries: l}
			if len(l) == 0 {
				m.Index, m.LogTerm = 1, 1
			}
			return m
		}
		e := emptyOf(1, 1)
		for range 3 {
			silent(t, what, c, heart-1)
			tells(t, what, c.Tick(3), send(2, 0, 0, e), send(3, 0, 0, e))
		}
		silent(t, what, c, heart-1)
		tells(t, what, added(c, 1, 2, true, 1), send(2, 1, 0), send(3, 1, 0, e))
		tells(t, what, c.Tick(3), send(2, 1, 0), send(3, 1, 0, e))
		silent(t, what, c, heart-1)
		_, _, l, _ := c.Read()
		tells(t, what, l, send(2, 1, 1), send(3, 1, 1, e))
		tells(t, what, c.Tick(3), send(2, 1, 1), send(3, 1, 1, e))
		is(t, what, c, raft.View{Role: raft.Leader, Leader: 1, Commit: 1, Round: 1})
	}
}

// TestRA2HeartBegins: when it leads none has gone, however long it was a candidate.
func TestRA2HeartBegins(t *testing.T) {
	c := begin(t, 1, 16, raft.Stored{Conf: all(3)}, 0)
	waits(t, "it", c, 16, 0)
	silent(t, "it", c, 11)
	voted(c, 1, 2)
	silent(t, "a leader", c, 3)
	if l := c.Tick(0); len(l) != 2 {
		t.Errorf("at its heart it tells%s", shownMsgs(l))
	}
}

// TestRA2GoneStays: where a rule does not say that none has gone, those that have stay.
func TestRA2GoneStays(t *testing.T) {
	c, _ := leading(t, 1, 16, raft.Stored{Conf: all(3)})
	silent(t, "a leader", c, 3)
	c.Step(msg.Msg{Kind: msg.Voted, From: 2, To: 1, Term: 5}, 9)
	is(t, "behind a newer term", c, raft.View{})
	waits(t, "behind a newer term", c, 13, 0)

	c = begin(t, 1, 16, raft.Stored{Conf: all(3)}, 4)
	silent(t, "a follower", c, 12)
	c.Step(msg.Msg{Kind: msg.Added, From: 2, To: 1, Term: 5}, 9)
	waits(t, "a follower behind a newer term", c, 8, 5)
	silent(t, "a candidate", c, 12)
	c.Step(msg.Msg{Kind: msg.Pieced, From: 2, To: 1, Term: 7}, 9)
	waits(t, "a candidate behind a newer term", c, 9, 5)
}

// TestRA2Alone: one member alone leads at its wait, and commits each entry at once.
func TestRA2Alone(t *testing.T) {
	for _, id := range []int{1, 7, 64} {
		s := raft.Stored{Term: 5, Log: logOf(3, 2, 4, 5), Conf: conf.Conf{id}}
		c := begin(t, id, 4, s, 3)
		tells(t, "it", waits(t, "it", c, 7, 0))
		is(t, "it", c, raft.View{Role: raft.Leader, Leader: id, Commit: 6})
		s.Term, s.Vote, s.Log = 6, id, with(s.Log, emptyOf(6, 6))
		keeps(t, "it", c, s)
		for i := 7; i < 20; i++ {
			index, l, err := c.Propose(entry.Order, fmt.Appendf(nil, "6/%d", i))
			if index != i || err != nil {
				t.Errorf("Propose: %d, %v", index, err)
			}
			tells(t, "Propose", l)
			is(t, "it", c, raft.View{Role: raft.Leader, Leader: id, Commit: i})
			s.Log = with(s.Log, orderOf(i, 6))
			keeps(t, "it", c, s)
			silent(t, "a leader alone", c, 9)
		}
	}
}

// TestRA2AloneOfOthers: one of two does not lead by its own vote.
func TestRA2AloneOfOthers(t *testing.T) {
	c := begin(t, 2, 2, raft.Stored{Conf: all(2)}, 0)
	for range 5 {
		waits(t, "it", c, 2, 0)
		is(t, "it", c, raft.View{Role: raft.Candidate})
	}
	if l := voted(c, 2, 1); len(l) != 1 || c.View().Role != raft.Leader {
		t.Errorf("by both votes it is %s, and tells%s", shown(c), shownMsgs(l))
	}
}

// TestRA2NothingCanBeAdded: a log that takes no entry: it is a follower again, of the term and the vote that it stood with.
func TestRA2NothingCanBeAdded(t *testing.T) {
	full := logOf(0, 0, slices.Repeat([]int{1}, api.MaxList)...)
	end := logOf(api.MaxIndex-1, 1, 1)
	for what, l := range map[string]entry.Log{"a full log": full, "the greatest index": end, "a Base of that": {Base: api.MaxIndex, Term: 1}} {
		s := raft.Stored{Term: 1, Log: l, Conf: all(3)}
		c := begin(t, 1, 8, s, 0)
		waits(t, what, c, 8, 2)
		silent(t, what, c, 6)
		is(t, what, c, raft.View{Role: raft.Candidate, Commit: l.Base})
		tells(t, what, voted(c, 1, 2))
		is(t, what, c, raft.View{Commit: l.Base})
		s.Term, s.Vote = 2, 1
		keeps(t, what, c, s)
		tells(t, what, voted(c, 1, 3))
		waits(t, what, c, 10, 0)
		is(t, what, c, raft.View{Role: raft.Candidate, Commit: l.Base})

		s = raft.Stored{Term: 1, Log: l, Conf: all(1)}
		c = begin(t, 1, 8, s, 0)
		for term := 2; term < 5; term++ {
			tells(t, what+", alone", waits(t, what, c, 8, 0))
			is(t, what+", alone", c, raft.View{Commit: l.Base})
			s.Term, s.Vote = term, 1
			keeps(t, what+", alone", c, s)
		}
	}
	most := logOf(0, 0, slices.Repeat([]int{1}, api.MaxList-1)...)
	c, _ := leading(t, 1, 4, raft.Stored{Term: 1, Log: most, Conf: all(1)})
	is(t, "room for one", c, raft.View{Role: raft.Leader, Leader: 1, Commit: api.MaxList})
	c, _ = leading(t, 1, 4, raft.Stored{Term: 1, Log: entry.Log{Base: api.MaxIndex - 1, Term: 1}, Conf: all(1)})
	is(t, "the greatest index, of its own", c, raft.View{Role: raft.Leader, Leader: 1, Commit: api.MaxIndex})
}

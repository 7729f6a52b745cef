package raft_test

import (
	"fmt"
	"slices"
	"testing"

	"tollbar/api"
	"tollbar/entry"
	"tollbar/msg"
	"tollbar/raft"
)

// follower is a member 1 of 1, 2 and 3 that has heard of 2 what is committed, in its term.
func follower(t *testing.T, term int, l entry.Log, commit int) *raft.Core {
	t.Helper()
	c := begin(t, 1, 4, raft.Stored{Term: term, Log: l, Conf: all(3)}, 0)
	index, logTerm := entry.Last(l)
	if commit > 0 {
		c.Step(appends(2, 1, term, index, logTerm, commit, 0), 0)
	}
	if got := c.View().Commit; got != max(commit, l.Base) {
		t.Fatalf("what is committed is %d, not %d", got, commit)
	}
	return c
}

// took is the answer of 1 to an Append, of the round 5.
func took(to, term int, ok bool, index int) msg.Msg {
	return msg.Msg{Kind: msg.Added, From: 1, To: to, Term: term, OK: ok, Index: index, Round: 5}
}

// TestRA3AppendNoMembers: a Member entry that tells none: nothing, but for the term.
func TestRA3AppendNoMembers(t *testing.T) {
	for _, data := range []string{"", "x", "n0;", "n1;n65;", "n2;n2;n1;"} {
		bad := entry.Entry{Index: 9, Term: 4, Kind: entry.Member, Data: []byte(data)}
		early := bad
		early.Index = 2
		for _, l := range [][]entry.Entry{{orderOf(8, 4), bad}, {orderOf(8, 4), bad, orderOf(10, 4)}, {early}, {bad}, {memberOf(8, 4, 1), bad}} {
			deaf(t, "no members", appends(3, 1, 6, 7, 4, 8, 5, l...))
			for _, r := range roles {
				c := role(t, r)
				v, s := c.View(), c.Stored()
				tells(t, "no members", c.Step(appends(3, 1, 8, 7, 4, 8, 5, l...), 0))
				s.Term, s.Vote = 8, 0
				is(t, "behind a newer term", c, raft.View{Commit: v.Commit})
				keeps(t, "behind a newer term", c, s)
			}
		}
		other := bad
		other.Index, other.Kind = 8, entry.Order
		c := role(t, raft.Follower)
		tells(t, "an Order of such data", c.Step(appends(3, 1, 6, 7, 4, 0, 5, other), 0), took(3, 6, true, 8))
	}
}

// TestRA3AppendDenied: an entry that is another one than what is committed: nothing, but that it follows, and waits anew.
func TestRA3AppendDenied(t *testing.T) {
	l := logOf(5, 3, 3, 4, 4, 4)
	for _, x := range []struct {
		at, term int
		denied   bool
	}{{6, 4, true}, {7, 3, true}, {7, 5, true}, {8, 5, true}, {9, 5, false}, {6, 3, false}, {5, 2, false}, {5, 4, false}, {2, 3, false}} {
		c := follower(t, 5, l, 8)
		silent(t, "it", c, 2)
		more := orderOf(x.at, x.term)
		before, s := shownStored(c.Stored()), c.Stored()
		told := c.Step(appends(3, 1, 5, x.at-1, 3, 9, 5, more), 2)
		what := fmt.Sprintf("an entry %d/%d", x.at, x.term)
		if x.denied {
			tells(t, what, told)
			if got := shownStored(c.Stored()); got != before {
				t.Errorf("%s: it keeps %s, not %s", what, short(got), short(before))
			}
			is(t, what, c, raft.View{Leader: 3, Commit: 8})
		} else if len(told) != 1 {
			t.Errorf("%s tells%s", what, shownMsgs(told))
		} else {
			s.Log, _, _ = entry.Merge(l, x.at-1, 3, []entry.Entry{more})
			keeps(t, what, c, s)
		}
		waits(t, what, c, 6, 0)
	}
	c := follower(t, 5, l, 8)
	tells(t, "the second of two", c.Step(appends(3, 1, 5, 6, 3, 9, 5, orderOf(7, 4), orderOf(8, 5)), 0))
	tells(t, "the second of two, in a term of its own", c.Step(appends(3, 1, 6, 6, 3, 9, 5, orderOf(7, 4), orderOf(8, 5)), 0))
	is(t, "it", c, raft.View{Leader: 3, Commit: 8})
	keeps(t, "it", c, raft.Stored{Term: 6, Log: l, Conf: all(3)})
}

// TestRA3AppendUnfit: what doesn't fit is told, and where to look; what is committed stays.
func TestRA3AppendUnfit(t *testing.T) {
	l := logOf(5, 3, 3, 4, 4, 4)
	for what, x := range map[string]struct{ index, term, told int }{
		"far above the last one": {90, 4, 9}, "just above": {10, 4, 9}, "another term": {9, 3, 6}, "another one, between": {8, 3, 6},
		"another one, first": {6, 4, 5}, "of 0": {9, 0, 6}, "the greatest": {api.MaxIndex - 1, 5, 9},
	} {
		c := follower(t, 5, l, 6)
		silent(t, what, c, 2)
		tells(t, what, c.Step(appends(3, 1, 5, x.index, x.term, 90, 5, orderOf(x.index+1, 5)), 3), took(3, 5, false, x.told))
		is(t, what, c, raft.View{Leader: 3, Commit: 6})
		keeps(t, what, c, raft.Stored{Term: 5, Log: l, Conf: all(3)})
		waits(t, what, c, 7, 0)
	}
	for what, more := range map[string][]entry.Entry{
		"a gap":           {orderOf(11, 5)},
		"a gap behind":    {orderOf(10, 5), orderOf(12, 5)},
		"terms that fall": {orderOf(10, 5), orderOf(11, 4)},
		"a term below":    {orderOf(10, 3)},
		"one below":       {orderOf(8, 4)},
	} {
		c := follower(t, 5, l, 9)
		tells(t, what, c.Step(appends(3, 1, 5, 9, 4, 90, 5, more...), 0), took(3, 5, false, 0))
		is(t, what, c, raft.View{Leader: 3, Commit: 9})
		keeps(t, what, c, raft.Stored{Term: 5, Log: l, Conf: all(3)})
	}
}

// TestRA3AppendFits: what fits is its log then, and committed up to the smaller one of what the leader has committed and what it has.
func TestRA3AppendFits(t *testing.T) {
	l := logOf(5, 3, 3, 4, 4, 4)
	for what, x := range map[string]struct {
		index, term, commit int
		more                []entry.Entry
		told, committed     int
		want                entry.Log
	}{
		"nothing, at the last one":    {9, 4, 0, nil, 9, 6, l},
		"nothing, all committed":      {9, 4, 9, nil, 9, 9, l},
		"nothing, more committed":     {9, 4, 90, nil, 9, 9, l},
		"nothing, between":            {7, 4, 9, nil, 7, 7, l},
		"nothing, less committed":     {9, 4, 5, nil, 9, 6, l},
		"nothing, at what is so":      {6, 3, 9, nil, 6, 6, l},
		"nothing, at the Base":        {5, 3, 9, nil, 5, 6, l},
		"nothing, ahead of it":        {2, 1, 9, nil, 5, 6, l},
		"two more":                    {9, 4, 10, []entry.Entry{orderOf(10, 4), orderOf(11, 5)}, 11, 10, with(l, orderOf(10, 4), orderOf(11, 5))},
		"two more, committed":         {9, 4, 11, []entry.Entry{orderOf(10, 4), orderOf(11, 5)}, 11, 11, with(l, orderOf(10, 4), orderOf(11, 5))},
		"what is there":               {6, 3, 9, []entry.Entry{orderOf(7, 4)}, 7, 7, l},
		"other ones":                  {7, 4, 9, []entry.Entry{orderOf(8, 5)}, 8, 8, with(logOf(5, 3, 3, 4), orderOf(8, 5))},
		"other ones, all behind":      {6, 3, 6, []entry.Entry{orderOf(7, 5)}, 7, 6, with(logOf(5, 3, 3), orderOf(7, 5))},
		"from ahead of the Base":      {3, 2, 90, []entry.Entry{orderOf(4, 2), orderOf(5, 3), orderOf(6, 3), orderOf(7, 4)}, 7, 7, l},
		"up to the Base":              {3, 2, 90, []entry.Entry{orderOf(4, 2), orderOf(5, 3)}, 5, 6, l},
		"up to ahead of it":           {2, 2, 90, []entry.Entry{orderOf(3, 2)}, 5, 6, l},
		"members":                     {9, 4, 0, []entry.Entry{memberOf(10, 5, 1, 2)}, 10, 6, with(l, memberOf(10, 5, 1, 2))},
		"other ones than what is not": {7, 4, 0, []entry.Entry{orderOf(8, 4), orderOf(9, 5)}, 9, 6, with(logOf(5, 3, 3, 4, 4), orderOf(9, 5))},
	} {
		for _, term := range []int{5, 6} {
			c := follower(t, 5, l, 6)
			silent(t, what, c, 2)
			tells(t, what, c.Step(appends(3, 1, term, x.index, x.term, x.commit, 5, x.more...), 3), took(3, term, true, x.told))
			is(t, what, c, raft.View{Leader: 3, Commit: x.committed})
			keeps(t, what, c, raft.Stored{Term: term, Log: x.want, Conf: all(3)})
			waits(t, what, c, 7, 0)
		}
	}
}

// TestRA3AppendMembers: the conf is that of the log at once, and another one where that goes.
func TestRA3AppendMembers(t *testing.T) {
	c := follower(t, 5, logOf(5, 3, 3), 0)
	members(t, "at first", c, 1, 2, 3)
	c.Step(appends(2, 1, 5, 6, 3, 0, 5, memberOf(7, 5, 1, 2)), 0)
	members(t, "behind members", c, 1, 2)
	c.Step(appends(2, 1, 6, 7, 5, 7, 5, orderOf(8, 6), memberOf(9, 6, 2)), 0)
	members(t, "behind others", c, 2)
	c.Step(appends(2, 1, 7, 8, 6, 7, 5, orderOf(9, 7)), 0)
	members(t, "behind another entry in their place", c, 1, 2)
	members(t, "of what is kept", begin(t, 1, 4, c.Stored(), 0), 1, 2)
}

// TestRA3AppendFull: as many as there is room for.
func TestRA3AppendFull(t *testing.T) {
	l := logOf(0, 0, slices.Repeat([]int{1}, api.MaxList-1)...)
	c := follower(t, 1, l, 0)
	n := api.MaxList
	more := []entry.Entry{orderOf(n, 1), orderOf(n+1, 1), orderOf(n+2, 1)}
	for range 2 {
		tells(t, "it", c.Step(appends(2, 1, 1, n-1, 1, n+2, 5, more...), 0), took(2, 1, true, n))
		is(t, "it", c, raft.View{Leader: 2, Commit: n})
		keeps(t, "it", c, raft.Stored{Term: 1, Log: with(l, more[0]), Conf: all(3)})
	}
}

// hears lets a leader hear an Added of its term.
func hears(c *raft.Core, from int, ok bool, index, round int) []msg.Msg {
	return c.Step(msg.Msg{Kind: msg.Added, From: from, To: 1, Term: c.Stored().Term, OK: ok, Index: index, Round: round}, 0)
}

// TestRA3AddedNotOK: next is the smaller one of Index and one, and one less, but above what surely is there.
func TestRA3AddedNotOK(t *testing.T) {
	l := logOf(0, 0, 1, 1, 1, 2, 2, 2, 2)
	own := with(l, emptyOf(8, 3))
	c, _ := leading(t, 1, 4, raft.Stored{Term: 2, Log: l, Conf: all(3)})
	sends := func(who, index int) msg.Msg {
		term, _ := entry.Term(own, index)
		return appends(1, who, 3, index, term, 0, 0, entry.From(own, index+1, 16)...)
	}
	for i, x := range []struct{ index, next int }{{90, 7}, {7, 6}, {5, 5}, {4, 4}, {4, 3}, {0, 1}, {0, 1}, {90, 1}} {
		tells(t, fmt.Sprintf("2, %d", i), added(c, 1, 2, false, x.index), sends(2, x.next-1))
	}
	tells(t, "2, OK", added(c, 1, 2, true, 3), sends(2, 3))
	for i, x := range []struct{ index, next int }{{0, 4}, {3, 4}, {90, 4}, {4, 4}} {
		tells(t, fmt.Sprintf("2, behind OK, %d", i), added(c, 1, 2, false, x.index), sends(2, x.next-1))
	}
	for i, x := range []struct{ index, next int }{{api.MaxIndex, 7}, {2, 3}} {
		tells(t, fmt.Sprintf("3, %d", i), added(c, 1, 3, false, x.index), sends(3, x.next-1))
	}
}

// TestRA3AddedOK: what surely is there grows only, and is at most its last index; next is behind it at least.
func TestRA3AddedOK(t *testing.T) {
	l := logOf(0, 0, 1, 1, 1, 2, 2, 2, 2)
	own := with(l, emptyOf(8, 3))
	c, _ := leading(t, 1, 4, raft.Stored{Term: 2, Log: l, Conf: all(5)})
	sends := func(who, index int) msg.Msg {
		term, _ := entry.Term(own, index)
		return appends(1, who, 3, index, term, 0, 0, entry.From(own, index+1, 16)...)
	}
	tells(t, "nothing more", added(c, 1, 2, true, 0))
	// As next is 8 still, that is what is sent.
	tells(t, "up to 3", added(c, 1, 2, true, 3), sends(2, 7))
	tells(t, "up to 3 again", added(c, 1, 2, true, 3))
	tells(t, "up to 2", added(c, 1, 2, true, 2))
	tells(t, "not OK", added(c, 1, 2, false, 0), sends(2, 3))
	tells(t, "up to 4", added(c, 1, 2, true, 4), sends(2, 4))
	tells(t, "up to 7", added(c, 1, 2, true, 7), sends(2, 7))
	tells(t, "up to 8", added(c, 1, 2, true, 8))
	tells(t, "not OK behind all", added(c, 1, 2, false, 0), appends(1, 2, 3, 8, 3, 0, 0))
	tells(t, "more than there is", added(c, 1, 3, true, api.MaxIndex), appends(1, 2, 3, 8, 3, 8, 0), appends(1, 3, 3, 8, 3, 8, 0),
		appends(1, 4, 3, 7, 2, 8, 0, own.L[7]), appends(1, 5, 3, 7, 2, 8, 0, own.L[7]))
	c.Propose(entry.Order, nil)
	tells(t, "not OK behind more than there is", added(c, 1, 3, false, 0), appends(1, 3, 3, 8, 3, 8, 0, entry.Entry{Index: 9, Term: 3, Kind: entry.Order}))
}

// TestRA3AddedUnknown: one that was not known is as at first: next is behind the last entry, nothing surely is there.
func TestRA3AddedUnknown(t *testing.T) {
	l := logOf(0, 0, 1, 1, 1, 2, 2, 2, 2)
	own := with(l, emptyOf(8, 3))
	for _, who := range []int{8, 64} {
		c, _ := leading(t, 1, 4, raft.Stored{Term: 2, Log: l, Conf: all(3)})
		tells(t, "not OK", added(c, 1, who, false, 90), appends(1, who, 3, 7, 2, 0, 0, own.L[7]))
		tells(t, "not OK again", added(c, 1, who, false, 90), appends(1, who, 3, 6, 2, 0, 0, own.L[6:]...))
		tells(t, "OK", added(c, 1, who, true, 2), appends(1, who, 3, 6, 2, 0, 0, own.L[6:]...))
		is(t, "it", c, raft.View{Role: raft.Leader, Leader: 1})
		c, _ = leading(t, 1, 4, raft.Stored{Term: 2, Log: l, Conf: all(3)})
		tells(t, "OK at first", added(c, 1, who, true, 2))
		tells(t, "OK, all", added(c, 1, who, true, 8))
		is(t, "it", c, raft.View{Role: raft.Leader, Leader: 1})
		if got := c.Tick(0); len(got) != 2 || got[0].To != 2 || got[1].To != 3 {
			t.Errorf("its heart tells%s", shownMsgs(got))
		}
	}
}

// TestRA3AddedRound: the greatest round counts, OK or not; of the leader's term alone.
func TestRA3AddedRound(t *testing.T) {
	for _, ok := range []bool{false, true} {
		c, _ := leading(t, 1, 4, raft.Stored{Conf: all(3)})
		added(c, 1, 2, true, 1)
		for range 5 {
			c.Read()
		}
		hears(c, 3, ok, 0, 2)
		heard(t, "2", c, 1, 2)
		hears(c, 3, ok, 0, 4)
		heard(t, "4", c, 1, 2, 3, 4)
		hears(c, 3, ok, 0, 1)
		heard(t, "1 late", c, 1, 2, 3, 4)
		hears(c, 9, ok, 0, 5)
		heard(t, "5 of somebody else", c, 1, 2, 3, 4)
		hears(c, 2, ok, 0, 90)
		heard(t, "more than there was", c, 1, 2, 3, 4, 5)
	}
}

// heard looks at which rounds a majority has answered.
func heard(t *testing.T, what string, c *raft.Core, want ...int) {
	t.Helper()
	for round := -2; round < 12; round++ {
		if got := c.Heard(round); got != slices.Contains(want, round) {
			t.Errorf("%s: Heard of %d: %v", what, round, got)
		}
	}
}

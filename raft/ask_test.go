package raft_test

import (
	"fmt"
	"math"
	"slices"
	"testing"

	"tollbar/api"
	"tollbar/conf"
	"tollbar/entry"
	"tollbar/msg"
	"tollbar/raft"
)

// proposes looks at a Propose that must be taken.
func proposes(t *testing.T, what string, c *raft.Core, kind int, data []byte, want int, told ...msg.Msg) {
	t.Helper()
	index, l, err := c.Propose(kind, data)
	if index != want || err != nil {
		t.Errorf("Propose, %s: %d, %v, not %d", what, index, err, want)
	}
	tells(t, "Propose, "+what, l, told...)
}

// unproposed looks at a Propose that must be refused, and change nothing.
func unproposed(t *testing.T, what string, c *raft.Core, kind int, data []byte, want api.Errno) {
	t.Helper()
	before := shown(c)
	index, l, err := c.Propose(kind, data)
	if index != 0 || len(l) > 0 || err != want {
		t.Errorf("Propose, %s: %d, %v,%s\nnot %v", what, index, err, short(shownMsgs(l)), want)
	}
	if got := shown(c); got != before {
		t.Errorf("Propose, %s: it is %s, not %s", what, short(got), short(before))
	}
}

// settled is a leader 1 of 1, 2 and 3, of the term 1, whose own entry is committed: 2 and 3 have it.
func settled(t *testing.T) *raft.Core {
	t.Helper()
	c, _ := leading(t, 1, 4, raft.Stored{Conf: all(3)})
	added(c, 1, 2, true, 1)
	added(c, 1, 3, true, 1)
	is(t, "a settled one", c, raft.View{Role: raft.Leader, Leader: 1, Commit: 1})
	return c
}

// TestRA4ProposeLeads: only a leader takes anything; that is asked first.
func TestRA4ProposeLeads(t *testing.T) {
	for _, r := range []int{raft.Follower, raft.Candidate} {
		for kind := -1; kind < 4; kind++ {
			for _, data := range [][]byte{nil, conf.Encode(all(2)), conf.Encode(all(3)), []byte("x"), make([]byte, 5000)} {
				unproposed(t, fmt.Sprintf("role %d", r), role(t, r), kind, data, api.ErrLead)
			}
		}
	}
}

// TestRA4Propose: each kind: the entry is there, and sent.
func TestRA4Propose(t *testing.T) {
	c := settled(t)
	var l []entry.Entry
	for i, e := range []entry.Entry{{Kind: entry.Order, Data: []byte("abc")}, {Kind: entry.Empty}, {Kind: entry.Empty, Data: []byte("x")}, {Kind: entry.Order}, {Kind: entry.Order, Data: make([]byte, 4096)}} {
		e.Index, e.Term = 2+i, 1
		l = append(l, e)
		proposes(t, "it", c, e.Kind, e.Data, e.Index, appends(1, 2, 1, 1, 1, 1, 0, l...), appends(1, 3, 1, 1, 1, 1, 0, l...))
		keeps(t, "it", c, raft.Stored{Term: 1, Vote: 1, Log: with(entry.Log{}, slices.Concat([]entry.Entry{emptyOf(1, 1)}, l)...), Conf: all(3)})
		is(t, "it", c, raft.View{Role: raft.Leader, Leader: 1, Commit: 1})
	}
	// Ahead of an entry of its own term being committed it takes all but members.
	c, _ = leading(t, 1, 4, raft.Stored{Conf: all(3)})
	e := []entry.Entry{emptyOf(1, 1), {Index: 2, Term: 1, Kind: entry.Order, Data: []byte("x")}}
	proposes(t, "not settled", c, entry.Order, []byte("x"), 2, appends(1, 2, 1, 0, 0, 0, 0, e...), appends(1, 3, 1, 0, 0, 0, 0, e...))
}

// TestRA4ProposeAddError: what entry.Add refuses.
func TestRA4ProposeAddError(t *testing.T) {
	c := settled(t)
	for _, kind := range []int{math.MinInt, -1, 3, 4, math.MaxInt} {
		unproposed(t, "no kind", c, kind, nil, api.ErrArg)
		unproposed(t, "no kind, too long", c, kind, make([]byte, 5000), api.ErrArg)
	}
	for _, n := range []int{4097, 5000, api.MaxBytes} {
		unproposed(t, "too long", c, entry.Order, make([]byte, n), api.ErrLong)
		unproposed(t, "too long", c, entry.Empty, make([]byte, n), api.ErrLong)
		unproposed(t, "too long for members", c, entry.Member, make([]byte, n), api.ErrArg)
	}
	full, _ := leading(t, 1, 4, raft.Stored{Term: 1, Log: logOf(0, 0, slices.Repeat([]int{1}, api.MaxList-2)...), Conf: all(1)})
	proposes(t, "the last one", full, entry.Order, nil, api.MaxList)
	unproposed(t, "one too many", full, entry.Order, nil, api.ErrFull)
	unproposed(t, "one too many, too long", full, entry.Order, make([]byte, 4097), api.ErrLong)
	unproposed(t, "members, one too many", full, entry.Member, conf.Encode(all(2)), api.ErrFull)
	unproposed(t, "the same members, one too many", full, entry.Member, conf.Encode(all(1)), api.ErrArg)
	end, _ := leading(t, 1, 4, raft.Stored{Term: 1, Log: entry.Log{Base: api.MaxIndex - 1, Term: 1}, Conf: all(1)})
	unproposed(t, "beyond the greatest index", end, entry.Order, nil, api.ErrArg)
	unproposed(t, "members beyond the greatest index", end, entry.Member, conf.Encode(all(2)), api.ErrArg)
}

// TestRA4ProposeMembers: members that are near, and not the same: sent to the others of these.
func TestRA4ProposeMembers(t *testing.T) {
	for _, x := range []conf.Conf{{1, 2}, {1, 3}, {2, 3}, {1, 2, 3, 4}, {1, 2, 3, 64}} {
		c := settled(t)
		e := memberOf(2, 1, x...)
		var want []msg.Msg
		for _, who := range x {
			switch who {
			case 1:
			case 2, 3:
				want = append(want, appends(1, who, 1, 1, 1, 1, 0, e))
			default: // of whom it knew nothing: as at first
				want = append(want, appends(1, who, 1, 2, 1, 1, 0))
			}
		}
		proposes(t, fmt.Sprint(x), c, entry.Member, e.Data, 2, want...)
		members(t, fmt.Sprint(x), c, x...)
		keeps(t, fmt.Sprint(x), c, raft.Stored{Term: 1, Vote: 1, Log: with(entry.Log{}, emptyOf(1, 1), e), Conf: all(3)})
		is(t, fmt.Sprint(x), c, raft.View{Role: raft.Leader, Leader: 1, Commit: 1})
		unproposed(t, "others, while these are not committed", c, entry.Member, conf.Encode(all(3)), api.ErrWait)
		unproposed(t, "none, while these are not committed", c, entry.Member, nil, api.ErrWait)
		for _, who := range x {
			added(c, 1, who, true, 2)
		}
		if !slices.Contains(x, 1) {
			unproposed(t, "others, by one that is out", c, entry.Member, conf.Encode(all(3)), api.ErrLead)
			continue
		}
		is(t, fmt.Sprint(x), c, raft.View{Role: raft.Leader, Leader: 1, Commit: 2})
		unproposed(t, "the same again", c, entry.Member, e.Data, api.ErrArg)
		if _, l, err := c.Propose(entry.Member, conf.Encode(all(3))); err != nil || len(l) == 0 {
			t.Errorf("Propose of those of old: %v", err)
		}
		members(t, "those of old", c, 1, 2, 3)
	}
}

// TestRA4ProposeNotNear: what is no members, not near, or the same.
func TestRA4ProposeNotNear(t *testing.T) {
	c := settled(t)
	for _, x := range []conf.Conf{{1, 2, 3}, {1}, {2}, {1, 4}, {4}, {1, 2, 4}, {2, 3, 4}, {4, 5, 6}, {1, 2, 3, 4, 5}} {
		unproposed(t, fmt.Sprint(x), c, entry.Member, conf.Encode(x), api.ErrArg)
	}
	for _, data := range []string{"", "x", "n0;", "n2;n1;n2", "n2;n2;n1;", "n2;n1;n2;n3;", "n3;n1;n2;n65;", "n3;n0;n1;n2;", "n02;n1;n2;"} {
		unproposed(t, data, c, entry.Member, []byte(data), api.ErrArg)
	}
	members(t, "it", c, 1, 2, 3)
}

// TestRA4ProposeMembersWait: not while what is committed is not of its term, nor while other members are not committed.
func TestRA4ProposeMembersWait(t *testing.T) {
	good, bad := conf.Encode(all(2)), []byte("x")
	c, _ := leading(t, 1, 4, raft.Stored{Term: 3, Log: logOf(5, 3, 3), Conf: all(3)})
	unproposed(t, "nothing of its term is committed", c, entry.Member, good, api.ErrWait)
	unproposed(t, "nothing of its term is committed", c, entry.Member, bad, api.ErrWait)
	added(c, 1, 2, true, 6)
	unproposed(t, "an older one is there", c, entry.Member, good, api.ErrWait)
	added(c, 1, 2, true, 7)
	unproposed(t, "its own is committed", c, entry.Member, bad, api.ErrArg)
	if _, _, err := c.Propose(entry.Member, good); err != nil {
		t.Errorf("Propose: %v", err)
	}

	// A Member entry of the term ahead, and one of its own that is committed alone.
	c, _ = leading(t, 1, 4, raft.Stored{Term: 1, Log: with(entry.Log{}, memberOf(1, 1, 1, 2, 3)), Conf: all(2)})
	unproposed(t, "none is committed", c, entry.Member, good, api.ErrWait)
	added(c, 1, 2, true, 1)
	unproposed(t, "one has them", c, entry.Member, good, api.ErrWait)
	added(c, 1, 2, true, 2)
	proposes(t, "all is committed", c, entry.Member, good, 3, appends(1, 2, 2, 2, 2, 2, 0, memberOf(3, 2, 1, 2)))
	proposes(t, "an Order", c, entry.Order, nil, 4, appends(1, 2, 2, 2, 2, 2, 0, memberOf(3, 2, 1, 2), entry.Entry{Index: 4, Term: 2, Kind: entry.Order}))
	unproposed(t, "others, behind an Order", c, entry.Member, conf.Encode(all(3)), api.ErrWait)
}

// TestRA4ProposeCommits: what is a majority at once is committed at once: alone, and when the other one goes.
func TestRA4ProposeCommits(t *testing.T) {
	c, _ := leading(t, 1, 4, raft.Stored{Conf: all(2)})
	added(c, 1, 2, true, 1)
	proposes(t, "an Order", c, entry.Order, nil, 2, appends(1, 2, 1, 1, 1, 1, 0, entry.Entry{Index: 2, Term: 1, Kind: entry.Order}))
	is(t, "it", c, raft.View{Role: raft.Leader, Leader: 1, Commit: 1})
	proposes(t, "alone", c, entry.Member, conf.Encode(all(1)), 3)
	is(t, "it", c, raft.View{Role: raft.Leader, Leader: 1, Commit: 3})
	proposes(t, "alone", c, entry.Order, nil, 4)
	is(t, "it", c, raft.View{Role: raft.Leader, Leader: 1, Commit: 4})
	// 2 is known still as it was when it went.
	proposes(t, "not alone", c, entry.Member, conf.Encode(all(2)), 5, appends(1, 2, 1, 1, 1, 4, 0, c.Stored().Log.L[1], c.Stored().Log.L[2], c.Stored().Log.L[3], memberOf(5, 1, 1, 2)))
	is(t, "it", c, raft.View{Role: raft.Leader, Leader: 1, Commit: 4})
}

// TestRA4ProposeTellsTwice: with all there already, what all are sent is followed by what is committed.
func TestRA4ProposeTellsTwice(t *testing.T) {
	c, _ := leading(t, 1, 4, raft.Stored{Conf: all(4)})
	added(c, 1, 2, true, 1)
	added(c, 1, 3, true, 1)
	proposes(t, "an Order", c, entry.Order, nil, 2, sendsAll(c, 1, 2, 3, 4)...)
	added(c, 1, 2, true, 2)
	e := memberOf(3, 1, 1, 2, 3)
	is(t, "ahead of it", c, raft.View{Role: raft.Leader, Leader: 1, Commit: 1})
	two := c.Stored().Log.L[1]
	// Two of three have the index 2, but two of four had not.
	proposes(t, "members", c, entry.Member, e.Data, 3,
		appends(1, 2, 1, 2, 1, 1, 0, e), appends(1, 3, 1, 1, 1, 1, 0, two, e),
		appends(1, 2, 1, 2, 1, 2, 0, e), appends(1, 3, 1, 1, 1, 2, 0, two, e))
	is(t, "behind it", c, raft.View{Role: raft.Leader, Leader: 1, Commit: 2})
}

// sendsAll is what a leader is to send to the others of 2, 3 and 4, where 4 has nothing and the index 2 is an Order of no data.
func sendsAll(c *raft.Core, commit int, who ...int) []msg.Msg {
	var l []msg.Msg
	two := entry.Entry{Index: 2, Term: 1, Kind: entry.Order}
	for _, w := range who {
		if w == 4 {
			l = append(l, appends(1, w, 1, 0, 0, commit, 0, emptyOf(1, 1), two))
		} else {
			l = append(l, appends(1, w, 1, 1, 1, commit, 0, two))
		}
	}
	return l
}

// reads looks at a Read that must be taken.
func reads(t *testing.T, c *raft.Core, round, index int, told ...msg.Msg) {
	t.Helper()
	r, i, l, err := c.Read()
	if r != round || i != index || err != nil {
		t.Errorf("Read: %d, %d, %v, not %d, %d", r, i, err, round, index)
	}
	tells(t, "Read", l, told...)
}

// unread looks at a Read that must be refused.
func unread(t *testing.T, what string, c *raft.Core, want api.Errno) {
	t.Helper()
	before := shown(c)
	r, i, l, err := c.Read()
	if r != 0 || i != 0 || len(l) > 0 || err != want {
		t.Errorf("Read, %s: %d, %d, %v, %v, not %v", what, r, i, l, err, want)
	}
	if got := shown(c); got != before {
		t.Errorf("Read, %s: it is %s, not %s", what, short(got), short(before))
	}
}

// TestRA4Read: rounds one after the other, by a leader that knows what is committed.
func TestRA4Read(t *testing.T) {
	unread(t, "a follower", role(t, raft.Follower), api.ErrLead)
	unread(t, "a candidate", role(t, raft.Candidate), api.ErrLead)
	unread(t, "a leader of which nothing is committed", role(t, raft.Leader), api.ErrWait)
	c, _ := leading(t, 1, 4, raft.Stored{Term: 1, Log: logOf(0, 0, 1), Conf: all(3)})
	unread(t, "a leader of which nothing is committed", c, api.ErrWait)
	added(c, 1, 2, true, 1)
	unread(t, "a leader of which only an older one is there", c, api.ErrWait)
	added(c, 1, 2, true, 2)
	for round := 1; round < 5; round++ {
		reads(t, c, round, 2, appends(1, 2, 2, 2, 2, 2, round), appends(1, 3, 2, 1, 1, 2, round, emptyOf(2, 2)))
		is(t, "a reader", c, raft.View{Role: raft.Leader, Leader: 1, Commit: 2, Round: round})
	}
	tells(t, "its heart", c.Tick(0), appends(1, 2, 2, 2, 2, 2, 4), appends(1, 3, 2, 1, 1, 2, 4, emptyOf(2, 2)))
	alone, _ := leading(t, 7, 4, raft.Stored{Term: 3, Log: logOf(5, 3), Conf: conf.Conf{7}})
	reads(t, alone, 1, 6)
	heard(t, "alone", alone, 1)
	reads(t, alone, 2, 6)
	heard(t, "alone", alone, 1, 2)
}

// TestRA4ReadWaitsAtBase: the term of what is committed is looked at where all was let go as well.
func TestRA4ReadWaitsAtBase(t *testing.T) {
	c, _ := leading(t, 1, 4, raft.Stored{Term: 2, Log: logOf(5, 2), Conf: all(1)})
	if err := c.Compact(6, nil); err != nil {
		t.Fatal(err)
	}
	reads(t, c, 1, 6)
	c, _ = leading(t, 1, 4, raft.Stored{Term: 3, Log: entry.Log{Base: 5, Term: 3}, Conf: all(2)})
	unread(t, "a Base of an older term", c, api.ErrWait)
}

// TestRA4Heard: a majority with itself, of odd and even numbers of members.
func TestRA4Heard(t *testing.T) {
	for n := 2; n <= api.MaxMembers; n++ {
		c, _ := leading(t, 1, 4, raft.Stored{Conf: all(n)})
		for who := 2; who <= n; who++ {
			added(c, 1, who, true, 1)
		}
		heard(t, "no round", c)
		for round := 1; round <= 3; round++ {
			c.Read()
		}
		heard(t, "no answer", c)
		for who := 2; who <= n/2; who++ {
			hears(c, who, true, 1, 3)
		}
		hears(c, 60, true, 1, 3)
		if n > 3 {
			heard(t, fmt.Sprintf("half of %d", n), c)
		}
		hears(c, n, true, 1, 2)
		heard(t, fmt.Sprintf("a majority of %d", n), c, 1, 2)
		hears(c, n, true, 1, 3)
		heard(t, fmt.Sprintf("a majority of %d", n), c, 1, 2, 3)
		for _, round := range []int{math.MinInt, api.MaxIndex, math.MaxInt} {
			if c.Heard(round) {
				t.Errorf("Heard of %d", round)
			}
		}
	}
}

// TestRA4HeardOut: one that is out of its conf does not count itself.
func TestRA4HeardOut(t *testing.T) {
	c := settled(t)
	c.Propose(entry.Member, conf.Encode(conf.Conf{2, 3}))
	reads(t, c, 1, 1, appends(1, 2, 1, 1, 1, 1, 1, memberOf(2, 1, 2, 3)), appends(1, 3, 1, 1, 1, 1, 1, memberOf(2, 1, 2, 3)))
	hears(c, 2, true, 1, 1)
	heard(t, "one of two", c)
	hears(c, 3, true, 1, 1)
	heard(t, "both", c, 1)
}

// TestRA4HeardLeads: only a leader has heard anything, and only one of the term of the answer.
func TestRA4HeardLeads(t *testing.T) {
	c := settled(t)
	c.Read()
	hears(c, 2, true, 1, 1)
	heard(t, "a leader", c, 1)
	c.Step(appends(3, 1, 2, 1, 1, 1, 0), 0)
	heard(t, "a follower", c)
	waits(t, "it", c, 4, 0)
	heard(t, "a candidate", c)
	voted(c, 1, 3)
	is(t, "it", c, raft.View{Role: raft.Leader, Leader: 1, Commit: 1, Round: 1})
	heard(t, "a leader again", c)
	hears(c, 3, true, 2, 1)
	heard(t, "a leader again", c, 1)
	added(c, 1, 2, true, 2)
	if r, _, _, err := c.Read(); r != 2 || err != nil {
		t.Errorf("Read: %d, %v", r, err)
	}
}

// uncompacted looks at a Compact that must be refused.
func uncompacted(t *testing.T, what string, c *raft.Core, index, n int, want api.Errno) {
	t.Helper()
	before := shown(c)
	if err := c.Compact(index, make([]byte, n)); err != want {
		t.Errorf("Compact of %d, %d bytes, %s: %v, not %v", index, n, what, err, want)
	}
	if got := shown(c); got != before {
		t.Errorf("Compact of %d, %s: it is %s, not %s", index, what, short(got), short(before))
	}
}

// TestRA4CompactErrors: beyond what is committed, too long, and what is not there; by which goes first.
func TestRA4CompactErrors(t *testing.T) {
	const most = api.MaxBytes - 1024
	l := logOf(5, 3, 3, 4, 4, 4)
	c := follower(t, 5, l, 8)
	for _, index := range []int{9, 10, api.MaxIndex, math.MaxInt} {
		uncompacted(t, "not committed", c, index, 0, api.ErrRange)
		uncompacted(t, "not committed, too long", c, index, most+1, api.ErrRange)
	}
	for _, index := range []int{8, 5, 4, 0, -1, math.MinInt} {
		uncompacted(t, "too long", c, index, most+1, api.ErrLong)
	}
	for _, index := range []int{4, 1, 0} {
		uncompacted(t, "below the Base", c, index, most, api.ErrOld)
	}
	for _, index := range []int{-1, -5, math.MinInt} {
		uncompacted(t, "below 0", c, index, most, api.ErrNone)
	}
}

// TestRA4Compact: what is let go, and what stays.
func TestRA4Compact(t *testing.T) {
	l := logOf(5, 3, 3, 4, 4, 4)
	for index := 5; index <= 8; index++ {
		for _, n := range []int{0, 3, api.MaxBytes - 1024} {
			c := follower(t, 5, l, 8)
			silent(t, "it", c, 2)
			snap := snapOf(n)
			if err := c.Compact(index, snap); err != nil {
				t.Errorf("Compact of %d: %v", index, err)
			}
			want, _ := entry.Compact(l, index)
			keeps(t, fmt.Sprintf("up to %d", index), c, raft.Stored{Term: 5, Log: want, Conf: all(3), Snap: snap})
			is(t, "it", c, raft.View{Leader: 2, Commit: 8})
			waits(t, "it", c, 2, 0)
		}
	}
	c := begin(t, 1, 4, raft.Stored{Conf: all(3), Snap: []byte("abc")}, 0)
	for _, snap := range []string{"x", "", "yz"} {
		if err := c.Compact(0, []byte(snap)); err != nil {
			t.Errorf("Compact of 0: %v", err)
		}
		keeps(t, "of nothing", c, raft.Stored{Conf: all(3), Snap: []byte(snap)})
	}
}

// TestRA4CompactConf: the members as of the index, whether they are let go or were ahead of it.
func TestRA4CompactConf(t *testing.T) {
	l := with(logOf(5, 3, 3), memberOf(7, 3, 1, 2), orderOf(8, 3), memberOf(9, 3, 1, 2, 3, 4), memberOf(10, 3, 1, 4))
	for index, want := range map[int]conf.Conf{5: all(3), 6: all(3), 7: all(2), 8: all(2), 9: all(4), 10: {1, 4}} {
		c := follower(t, 5, l, 10)
		if err := c.Compact(index, []byte("x")); err != nil {
			t.Errorf("Compact of %d: %v", index, err)
		}
		left, _ := entry.Compact(l, index)
		keeps(t, fmt.Sprintf("up to %d", index), c, raft.Stored{Term: 5, Log: left, Conf: want, Snap: []byte("x")})
		members(t, fmt.Sprintf("up to %d", index), c, 1, 4)
		if err := c.Compact(index, []byte("y")); err != nil {
			t.Errorf("Compact of %d again: %v", index, err)
		}
		keeps(t, fmt.Sprintf("up to %d again", index), c, raft.Stored{Term: 5, Log: left, Conf: want, Snap: []byte("y")})
	}
}

// TestRA4CompactPieces: pieces begin anew, also where the Base stays.
func TestRA4CompactPieces(t *testing.T) {
	for _, index := range []int{5, 6, 7} {
		c, l, text := handing(t)
		added(c, 1, 3, false, 0)
		added(c, 1, 3, true, 6)
		pieced(c, 2, true, 3, 0, 0)
		tells(t, "it", pieced(c, 2, false, 5, 1024, 0), pieceOf(1, 2, 6, l, text, 1024, 0))
		added(c, 1, 3, true, 7)
		if err := c.Compact(index, snapOf(2000)); err != nil {
			t.Fatal(err)
		}
		left, _ := entry.Compact(l, index)
		tells(t, "its heart", c.Tick(0), pieceOf(1, 2, 6, left, handedText(all(3), snapOf(2000)), 0, 0), appends(1, 3, 6, 7, 6, 7, 0))
		tells(t, "a Pieced that comes late", pieced(c, 2, false, 5, 1024, 0), lateFor(index, left)...)
	}
}

// lateFor is what a Pieced for the Base 5 makes a leader tell, whose Base is an index now.
func lateFor(index int, left entry.Log) []msg.Msg {
	if index != 5 {
		return nil
	}
	return []msg.Msg{pieceOf(1, 2, 6, left, handedText(all(3), snapOf(2000)), 1024, 0)}
}

// TestRA4CompactSends: who needs what was let go is sent the text.
func TestRA4CompactSends(t *testing.T) {
	c := settled(t)
	for i := 2; i < 6; i++ {
		c.Propose(entry.Order, fmt.Appendf(nil, "1/%d", i))
		added(c, 1, 2, true, i)
	}
	left := logOf(4, 1, 1)
	if err := c.Compact(4, []byte("abc")); err != nil {
		t.Fatal(err)
	}
	tells(t, "its heart", c.Tick(0), appends(1, 2, 1, 5, 1, 5, 0), pieceOf(1, 3, 1, left, handedText(all(3), []byte("abc")), 0, 0))
	tells(t, "not added", added(c, 1, 2, false, 0), appends(1, 2, 1, 5, 1, 5, 0))
	tells(t, "pieced", pieced(c, 3, true, 4, 0, 0), appends(1, 3, 1, 4, 1, 5, 0, left.L...))
}

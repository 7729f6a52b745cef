package raft_test

import (
	"fmt"
	"math"
	"slices"
	"testing"

	"tollbar/api"
	"tollbar/entry"
	"tollbar/msg"
	"tollbar/raft"
)

// someLog is a log that members of each role begin with; a leader has an entry more.
func someLog() entry.Log { return logOf(5, 3, 3, 4) }

// role is a member 1 of 1, 2 and 3, of the term 6, of a role; it waits 16 ticks from its last wait on.
func role(t *testing.T, r int) *raft.Core {
	t.Helper()
	s := raft.Stored{Term: 5, Log: someLog(), Conf: all(3), Snap: []byte("abc")}
	c := begin(t, 1, 16, s, 0)
	switch r {
	case raft.Follower:
		c.Step(msg.Msg{Kind: msg.Append, From: 2, To: 1, Term: 6, Index: 7, LogTerm: 4, Commit: 6}, 0)
	case raft.Candidate:
		waits(t, "one that is to stand", c, 16, 0)
	case raft.Leader:
		waits(t, "one that is to lead", c, 16, 0)
		voted(c, 1, 2)
	}
	if v := c.View(); v.Role != r || c.Stored().Term != 6 {
		t.Fatalf("it is no %d: %s", r, short(shown(c)))
	}
	return c
}

// roles are all three.
var roles = []int{raft.Follower, raft.Candidate, raft.Leader}

// kind is a message of a kind, of 2 to 1 in a term, that tells much if it is heard.
func kind(k, term int) msg.Msg {
	m := msg.Msg{Kind: k, From: 2, To: 1, Term: term, Index: 7, LogTerm: 4, Round: 3}
	switch k {
	case msg.Vote:
		m.Index = 90
	case msg.Voted, msg.Added:
		m.OK = true
	case msg.Append:
		m.Commit, m.Entries = 8, []entry.Entry{orderOf(8, 4)}
	case msg.Piece:
		m.Index, m.OK, m.Data = 20, true, handedText(all(2), nil)
	case msg.Pieced:
		m.OK, m.Index = true, 8
	}
	return m
}

// deaf looks at a message that a member of any role must not hear at all.
func deaf(t *testing.T, what string, m msg.Msg) {
	t.Helper()
	for _, r := range roles {
		c := role(t, r)
		silent(t, what, c, 2)
		before := shown(c)
		tells(t, what, c.Step(m, 5))
		if got := shown(c); got != before {
			t.Errorf("behind %s, %s, it is %s, not %s", what, short(shownMsg(m)), short(got), short(before))
		}
		if r == raft.Leader {
			silent(t, what, c, 1)
			if l := c.Tick(0); len(l) != 2 {
				t.Errorf("behind %s the heart tells%s", what, shownMsgs(l))
			}
		} else {
			waits(t, "behind "+what, c, 14, 0)
		}
	}
}

// TestRA3MayNotBe: what msg.Check refuses, of each kind.
func TestRA3MayNotBe(t *testing.T) {
	for k := 1; k <= msg.MaxKind; k++ {
		for _, term := range []int{6, 9} {
			for what, change := range map[string]func(m *msg.Msg){
				"the kind 0":              func(m *msg.Msg) { m.Kind = 0 },
				"the kind 7":              func(m *msg.Msg) { m.Kind = 7 },
				"one of nobody":           func(m *msg.Msg) { m.From = 0 },
				"one of 65":               func(m *msg.Msg) { m.From = 65 },
				"one of itself":           func(m *msg.Msg) { m.From = 1 },
				"the term 0":              func(m *msg.Msg) { m.Term, m.LogTerm, m.Entries = 0, 0, nil },
				"a term below 0":          func(m *msg.Msg) { m.Term = math.MinInt },
				"a term too great":        func(m *msg.Msg) { m.Term = api.MaxIndex + 1 },
				"an index below 0":        func(m *msg.Msg) { m.Index = -1 },
				"an index too great":      func(m *msg.Msg) { m.Index = api.MaxIndex + 1 },
				"a log's term below 0":    func(m *msg.Msg) { m.LogTerm = -1 },
				"a commit too great":      func(m *msg.Msg) { m.Commit = api.MaxIndex + 1 },
				"a round below 0":         func(m *msg.Msg) { m.Round = -1 },
				"a place too great":       func(m *msg.Msg) { m.Off = math.MaxInt },
				"too much data":           func(m *msg.Msg) { m.Data = make([]byte, 4097) },
				"too many entries":        func(m *msg.Msg) { m.Entries = slices.Repeat([]entry.Entry{orderOf(8, 4)}, 65) },
				"an entry of no index":    func(m *msg.Msg) { m.Entries = []entry.Entry{{Term: 1}} },
				"an entry of no kind":     func(m *msg.Msg) { m.Entries = []entry.Entry{{Index: 8, Term: 4, Kind: 3}} },
				"one for 2":               func(m *msg.Msg) { m.From, m.To = 3, 2 },
				"one for 64":              func(m *msg.Msg) { m.To = 64 },
				"a log's term above":      func(m *msg.Msg) { m.LogTerm = term + 1 },
				"a log's term far above":  func(m *msg.Msg) { m.LogTerm = api.MaxIndex },
				"an entry's term above":   func(m *msg.Msg) { m.Entries = []entry.Entry{orderOf(8, term+1)} },
				"a later one's above":     func(m *msg.Msg) { m.Entries = []entry.Entry{orderOf(8, 4), orderOf(9, term), orderOf(10, term+1)} },
				"an earlier one's above":  func(m *msg.Msg) { m.Entries = []entry.Entry{orderOf(8, term+1), orderOf(9, term)} },
				"nothing else than zeros": func(m *msg.Msg) { *m = msg.Msg{} },
			} {
				m := kind(k, term)
				change(&m)
				deaf(t, what, m)
			}
		}
	}
}

// TestRA3JustHeard: a LogTerm, and an entry's term, that is m's own is heard.
func TestRA3JustHeard(t *testing.T) {
	c := role(t, raft.Follower)
	tells(t, "a Vote", c.Step(msg.Msg{Kind: msg.Vote, From: 3, To: 1, Term: 9, Index: 7, LogTerm: 9}, 0), msg.Msg{Kind: msg.Voted, From: 1, To: 3, Term: 9, OK: true})
	c = role(t, raft.Follower)
	tells(t, "an Append", c.Step(appends(2, 1, 9, 7, 4, 0, 0, orderOf(8, 9)), 0), msg.Msg{Kind: msg.Added, From: 1, To: 2, Term: 9, OK: true, Index: 8})
}

// TestRA3Older: an older term's is answered with its own, and changes nothing.
func TestRA3Older(t *testing.T) {
	for _, term := range []int{1, 4, 5} {
		for _, r := range roles {
			for k := 1; k <= msg.MaxKind; k++ {
				m := kind(k, term)
				m.LogTerm, m.Entries = min(m.LogTerm, term), nil
				var want []msg.Msg
				switch k {
				case msg.Vote:
					want = append(want, msg.Msg{Kind: msg.Voted, From: 1, To: 2, Term: 6})
				case msg.Append:
					want = append(want, msg.Msg{Kind: msg.Added, From: 1, To: 2, Term: 6})
				case msg.Piece:
					want = append(want, msg.Msg{Kind: msg.Pieced, From: 1, To: 2, Term: 6, Index: 20})
				}
				c := role(t, r)
				silent(t, "it", c, 2)
				before := shown(c)
				what := fmt.Sprintf("of the term %d to the role %d: %s", term, r, shownMsg(m))
				tells(t, what, c.Step(m, 5), want...)
				if got := shown(c); got != before {
					t.Errorf("%s: it is %s, not %s", what, short(got), short(before))
				}
				if r != raft.Leader {
					waits(t, what, c, 14, 0)
				}
			}
		}
	}
}

// TestRA3OlderPieceCommitted: an older term's Piece is refused also where its Index is committed, and an older Append whatever its entries.
func TestRA3OlderPieceCommitted(t *testing.T) {
	c := role(t, raft.Follower)
	tells(t, "a Piece", c.Step(msg.Msg{Kind: msg.Piece, From: 3, To: 1, Term: 5, Index: 6, LogTerm: 3, Round: 2}, 0), msg.Msg{Kind: msg.Pieced, From: 1, To: 3, Term: 6, Index: 6})
	bad := entry.Entry{Index: 8, Term: 4, Kind: entry.Member, Data: []byte("x")}
	tells(t, "an Append", c.Step(appends(3, 1, 5, 7, 4, 0, 2, bad), 0), msg.Msg{Kind: msg.Added, From: 1, To: 3, Term: 6})
}

// TestRA3Newer: a newer term is its own then, it has no vote, and follows: nobody, or whom the message is of.
func TestRA3Newer(t *testing.T) {
	for _, term := range []int{7, 8, api.MaxIndex} {
		for _, r := range roles {
			for k := 1; k <= msg.MaxKind; k++ {
				c := role(t, r)
				before := c.View()
				s := c.Stored()
				m := kind(k, term)
				want := raft.View{Commit: before.Commit}
				s.Term, s.Vote = term, 0
				var told []msg.Msg
				answer := msg.Msg{From: 1, To: 2, Term: term, Index: m.Index, OK: true, Round: 3}
				switch k {
				case msg.Vote:
					// Its LogTerm is 4, a leader's last entry has 6.
					s.Vote = 2
					if r == raft.Leader {
						s.Vote = 0
					}
					told = append(told, msg.Msg{Kind: msg.Voted, From: 1, To: 2, Term: term, OK: s.Vote == 2})
				case msg.Append:
					want.Leader, want.Commit = 2, 8
					s.Log = with(someLog(), m.Entries...)
					answer.Kind, answer.Index = msg.Added, 8
					told = append(told, answer)
				case msg.Piece:
					want.Leader, want.Commit = 2, 20
					s.Log, s.Conf, s.Snap = entry.Log{Base: 20, Term: 4}, all(2), nil
					answer.Kind = msg.Pieced
					told = append(told, answer)
				}
				what := fmt.Sprintf("of the term %d to the role %d: %s", term, r, shownMsg(m))
				tells(t, what, c.Step(m, 5), told...)
				is(t, what, c, want)
				keeps(t, what, c, s)
			}
		}
	}
}

// TestRA3Same: a message of its own term to a role that has nothing to do with it.
func TestRA3Same(t *testing.T) {
	for r, kinds := range map[int][]int{
		raft.Follower:  {msg.Voted, msg.Added, msg.Pieced},
		raft.Candidate: {msg.Added, msg.Pieced},
		raft.Leader:    {msg.Voted},
	} {
		for _, k := range kinds {
			for _, ok := range []bool{false, true} {
				c := role(t, r)
				before := shown(c)
				m := kind(k, 6)
				m.OK = ok
				tells(t, shownMsg(m), c.Step(m, 5))
				if got := shown(c); got != before {
					t.Errorf("%s: it is %s, not %s", shownMsg(m), short(got), short(before))
				}
			}
		}
	}
}

// TestRA3SameFollows: an Append, and a Piece, of its own term makes each role a follower, and its wait new.
func TestRA3SameFollows(t *testing.T) {
	for _, r := range roles {
		for _, k := range []int{msg.Append, msg.Piece} {
			c := role(t, r)
			silent(t, "it", c, 3)
			vote := c.Stored().Vote
			m := kind(k, 6)
			m.From, m.Data, m.OK = 3, nil, false
			if l := c.Step(m, 5); len(l) != 1 || l[0].To != 3 {
				t.Errorf("%s: it tells%s", shownMsg(m), shownMsgs(l))
			}
			if v := c.View(); v.Role != raft.Follower || v.Leader != 3 || c.Stored().Vote != vote || c.Stored().Term != 6 {
				t.Errorf("%s: it is %s", shownMsg(m), short(shown(c)))
			}
			waits(t, shownMsg(m), c, 21, 0)
		}
	}
}

// vote asks a member 1 for its vote.
func vote(c *raft.Core, from, term, index, logTerm, draw int) []msg.Msg {
	return c.Step(msg.Msg{Kind: msg.Vote, From: from, To: 1, Term: term, Index: index, LogTerm: logTerm, Commit: 9, Round: 9, OK: true, Off: 9}, draw)
}

// answered is the answer to a Vote.
func answered(to, term int, ok bool) msg.Msg {
	return msg.Msg{Kind: msg.Voted, From: 1, To: to, Term: term, OK: ok}
}

// TestRA3VoteOnce: one in a term, the same one again and again, another one not; in the next term another one.
func TestRA3VoteOnce(t *testing.T) {
	s := raft.Stored{Term: 2, Conf: all(3)}
	c := begin(t, 1, 4, s, 0)
	for range 3 {
		tells(t, "2", vote(c, 2, 2, 0, 0, 0), answered(2, 2, true))
		tells(t, "3", vote(c, 3, 2, 7, 2, 0), answered(3, 2, false))
		tells(t, "64, which is none", vote(c, 64, 2, 7, 2, 0), answered(64, 2, false))
		s.Vote = 2
		keeps(t, "it", c, s)
	}
	is(t, "it", c, raft.View{})
	c = begin(t, 1, 4, c.Stored(), 0)
	tells(t, "3, behind a new begin", vote(c, 3, 2, 7, 2, 0), answered(3, 2, false))
	tells(t, "2, behind a new begin", vote(c, 2, 2, 7, 2, 0), answered(2, 2, true))
	tells(t, "64, in the next term", vote(c, 64, 3, 7, 2, 0), answered(64, 3, true))
	tells(t, "2, in the next term", vote(c, 2, 3, 7, 2, 0), answered(2, 3, false))
	tells(t, "64, in the term behind", vote(c, 64, 2, 7, 2, 0), answered(64, 3, false))
	keeps(t, "it", c, raft.Stored{Term: 3, Vote: 64, Conf: all(3)})
}

// TestRA3VoteOfRoles: who stood has voted for itself.
func TestRA3VoteOfRoles(t *testing.T) {
	for _, r := range roles {
		c := role(t, r)
		before := c.View()
		tells(t, "it", vote(c, 3, 6, 90, 6, 0), answered(3, 6, r == raft.Follower))
		is(t, "it", c, before)
	}
}

// TestRA3VoteLog: a log that is as new as its own, by its last term, or by the same and its last index.
func TestRA3VoteLog(t *testing.T) {
	for _, l := range []entry.Log{{}, logOf(0, 0, 1, 3), {Base: 5, Term: 3}, logOf(5, 3, 3, 7, 7)} {
		index, term := entry.Last(l)
		for _, x := range []struct {
			index, term int
			ok          bool
		}{
			{index, term, true}, {index + 1, term, true}, {index + 90, term, true}, {0, term + 1, true}, {index, term + 1, true},
			{index - 1, term, false}, {0, term, index == 0}, {index + 90, term - 1, false}, {index, 0, term == 0}, {api.MaxIndex, term - 1, false},
		} {
			if x.index < 0 || x.term < 0 {
				continue
			}
			for _, in := range []int{8, 9} {
				c := begin(t, 1, 4, raft.Stored{Term: 8, Log: l, Conf: all(3)}, 0)
				what := fmt.Sprintf("%d/%d to a log that ends with %d/%d", x.index, x.term, index, term)
				tells(t, what, vote(c, 2, in, x.index, x.term, 0), answered(2, in, x.ok))
				want := raft.Stored{Term: in, Log: l, Conf: all(3)}
				if x.ok {
					want.Vote = 2
				}
				keeps(t, what, c, want)
				if !x.ok {
					tells(t, "one of a log as new, then", vote(c, 3, in, index, term, 0), answered(3, in, true))
				}
			}
		}
	}
}

// TestRA3VoteWait: who votes waits anew, who doesn't goes on waiting.
func TestRA3VoteWait(t *testing.T) {
	c := begin(t, 1, 4, raft.Stored{Term: 2, Log: logOf(0, 0, 1), Conf: all(3)}, 4)
	silent(t, "it", c, 5)
	vote(c, 2, 2, 0, 0, 2)
	silent(t, "behind a vote that was refused", c, 1)
	vote(c, 2, 3, 0, 0, 2)
	waits(t, "behind another one", c, 2, 4)
	vote(c, 2, 5, 1, 1, 2)
	silent(t, "behind a vote", c, 4)
	vote(c, 3, 5, 1, 1, 4)
	silent(t, "behind a vote that was refused", c, 1)
	vote(c, 2, 5, 1, 1, 3)
	waits(t, "behind the same vote again", c, 7, 0)
}

// TestRA3VoteKnowsLeader: a vote does not change whom it follows.
func TestRA3VoteKnowsLeader(t *testing.T) {
	c := begin(t, 1, 4, raft.Stored{Term: 2, Conf: all(3)}, 0)
	c.Step(appends(2, 1, 2, 0, 0, 0, 0), 0)
	tells(t, "it", vote(c, 3, 2, 0, 0, 0), answered(3, 2, true))
	is(t, "it", c, raft.View{Leader: 2})
	tells(t, "it", vote(c, 2, 3, 0, 0, 0), answered(2, 3, true))
	is(t, "it", c, raft.View{})
}

// TestRA3VotedMajority: each one's counts once, up to more than half.
func TestRA3VotedMajority(t *testing.T) {
	for n := 2; n <= api.MaxMembers; n++ {
		c := begin(t, 1, 4, raft.Stored{Conf: all(n)}, 0)
		waits(t, "it", c, 4, 0)
		candidate := raft.View{Role: raft.Candidate}
		for who := 2; who <= n/2; who++ {
			for range 3 {
				tells(t, "a vote", voted(c, 1, who))
			}
		}
		tells(t, "votes of others than members", voted(c, 1, 8, 9, 63, 64))
		is(t, fmt.Sprintf("half of %d votes", n), c, candidate)
		for who := 2; who <= n; who++ {
			tells(t, "no vote", c.Step(msg.Msg{Kind: msg.Voted, From: who, To: 1, Term: 1}, 0))
		}
		is(t, fmt.Sprintf("no vote of %d", n), c, candidate)
		if l := voted(c, 1, n); len(l) != n-1 {
			t.Errorf("a majority of %d tells%s", n, shownMsgs(l))
		}
		is(t, fmt.Sprintf("a majority of %d", n), c, raft.View{Role: raft.Leader, Leader: 1})
	}
}

// TestRA3VotedTerm: votes of another term do not count, nor do those of an election ahead.
func TestRA3VotedTerm(t *testing.T) {
	c := begin(t, 1, 4, raft.Stored{Term: 3, Conf: all(5)}, 0)
	waits(t, "it", c, 4, 0)
	voted(c, 1, 2)
	waits(t, "it", c, 4, 0)
	for _, term := range []int{3, 4} {
		for who := 2; who <= 5; who++ {
			tells(t, "an older vote", c.Step(msg.Msg{Kind: msg.Voted, From: who, To: 1, Term: term, OK: true}, 0))
		}
	}
	voted(c, 1, 3)
	is(t, "two votes of this term", c, raft.View{Role: raft.Candidate})
	tells(t, "a vote of a newer term", c.Step(msg.Msg{Kind: msg.Voted, From: 4, To: 1, Term: 6, OK: true}, 0))
	is(t, "behind a newer term", c, raft.View{})
	tells(t, "votes of that", voted(c, 1, 2, 3, 4, 5))
	is(t, "behind votes that it did not ask for", c, raft.View{})
	keeps(t, "it", c, raft.Stored{Term: 6, Conf: all(5)})
}

package raft_test

import (
	"bytes"
	"fmt"
	"slices"
	"strconv"
	"testing"

	"tollbar/api"
	"tollbar/conf"
	"tollbar/entry"
	"tollbar/msg"
	"tollbar/raft"
)

// appends is an Append of a leader, of entries.
func appends(from, to, term, index, logTerm, commit, round int, l ...entry.Entry) msg.Msg {
	return msg.Msg{Kind: msg.Append, From: from, To: to, Term: term, Index: index, LogTerm: logTerm, Commit: commit, Round: round, Entries: l}
}

// handedText is the handed text of members and a text, byte by byte.
func handedText(l conf.Conf, snap []byte) []byte {
	members := "n" + strconv.Itoa(len(l)) + ";"
	for _, who := range l {
		members += "n" + strconv.Itoa(who) + ";"
	}
	return fmt.Appendf(nil, "b%d:%sb%d:%s", len(members), members, len(snap), snap)
}

// pieceOf is the Piece of a handed text at a place.
func pieceOf(from, to, term int, l entry.Log, text []byte, off, round int) msg.Msg {
	end := min(off+1024, len(text))
	return msg.Msg{Kind: msg.Piece, From: from, To: to, Term: term, Index: l.Base, LogTerm: l.Term, Off: off, Data: text[off:end], OK: end == len(text), Round: round}
}

// snapOf is a text of some bytes, no two pieces of it alike.
func snapOf(n int) []byte {
	b := make([]byte, n)
	for i := range b {
		b[i] = byte(i*i/7 + i>>8)
	}
	return b
}

// TestRA2Leads: what it adds and sends when it leads, behind whatever log.
func TestRA2Leads(t *testing.T) {
	for _, l := range []entry.Log{{}, logOf(0, 0, 1, 1, 3), {Base: 5, Term: 3}, logOf(5, 3, 3, 4)} {
		index, term := entry.Last(l)
		s := raft.Stored{Term: 6, Vote: 3, Log: l, Conf: all(4)}
		c := begin(t, 2, 4, s, 0)
		waits(t, "it", c, 4, 0)
		tells(t, "two of four votes", voted(c, 2, 3))
		is(t, "two of four votes", c, raft.View{Role: raft.Candidate, Commit: l.Base})
		e := emptyOf(index+1, 7)
		var want []msg.Msg
		for _, who := range []int{1, 3, 4} {
			want = append(want, appends(2, who, 7, index, term, l.Base, 0, e))
		}
		tells(t, "three of four votes", voted(c, 2, 1), want...)
		is(t, "three of four votes", c, raft.View{Role: raft.Leader, Leader: 2, Commit: l.Base})
		s.Term, s.Vote, s.Log = 7, 2, with(l, e)
		keeps(t, "a leader", c, s)
		tells(t, "a vote more", voted(c, 2, 4))
		keeps(t, "a leader", c, s)
	}
}

// TestRA2LeadsAgain: what it knew of others when it led ahead of that is gone.
func TestRA2LeadsAgain(t *testing.T) {
	c, _ := leading(t, 1, 4, raft.Stored{Conf: all(3)})
	added(c, 1, 2, true, 1)
	added(c, 1, 3, true, 1)
	c.Read()
	c.Step(msg.Msg{Kind: msg.Added, From: 2, To: 1, Term: 1, OK: true, Index: 1, Round: 1}, 0)
	if !c.Heard(1) {
		t.Error("a round that was answered was not heard")
	}
	c.Step(msg.Msg{Kind: msg.Vote, From: 3, To: 1, Term: 2, Index: 1, LogTerm: 1}, 0)
	if is(t, "a follower", c, raft.View{Commit: 1, Round: 1}); c.Heard(1) {
		t.Error("a follower heard a round")
	}
	waits(t, "a follower", c, 4, 0)
	tells(t, "its votes", voted(c, 1, 2), appends(1, 2, 3, 1, 1, 1, 1, emptyOf(2, 3)), appends(1, 3, 3, 1, 1, 1, 1, emptyOf(2, 3)))
	if c.Heard(1) {
		t.Error("of a round that was answered to it in another term it heard again")
	}
	tells(t, "3 which has not what 2 has", added(c, 1, 3, false, 0), appends(1, 3, 3, 0, 0, 1, 1, emptyOf(1, 1), emptyOf(2, 3)))
	is(t, "it", c, raft.View{Role: raft.Leader, Leader: 1, Commit: 1, Round: 1})
	tells(t, "2", added(c, 1, 2, false, 0), appends(1, 2, 3, 0, 0, 1, 1, emptyOf(1, 1), emptyOf(2, 3)))
}

// TestRA2SendsEntries: at most 16, from next on, behind the one ahead of it.
func TestRA2SendsEntries(t *testing.T) {
	terms := slices.Concat(slices.Repeat([]int{1}, 10), slices.Repeat([]int{2}, 30))
	for _, base := range []int{0, 3} {
		l := logOf(base, min(base, 1), terms...)
		c, _ := leading(t, 1, 4, raft.Stored{Term: 2, Log: l, Conf: all(3)})
		l = with(l, emptyOf(base+41, 3))
		for _, index := range []int{base + 39, base + 38, base + 26, base + 25, base + 24, base + 23, base + 10, base + 9, base + 1, base} {
			want := appends(1, 2, 3, index, 0, base, 0, entry.From(l, index+1, 16)...)
			want.LogTerm, _ = entry.Term(l, index)
			if n := len(want.Entries); n != min(16, base+41-index) {
				t.Fatalf("%d entries", n)
			}
			tells(t, fmt.Sprintf("not OK at %d", index), added(c, 1, 2, false, index), want)
		}
		for _, index := range []int{base + 1, base + 16, base + 40} {
			want := appends(1, 2, 3, index, 0, base, 0, entry.From(l, index+1, 16)...)
			want.LogTerm, _ = entry.Term(l, index)
			tells(t, fmt.Sprintf("OK at %d", index), added(c, 1, 2, true, index), want)
		}
		all := []msg.Msg{appends(1, 2, 3, base+41, 3, base+41, 0), appends(1, 3, 3, base+40, 2, base+41, 0, l.L[40])}
		tells(t, "OK at the last one", added(c, 1, 2, true, base+41), all...)
		tells(t, "its heart", c.Tick(0), all...)
	}
}

// TestRA2SendsPieces: where next is at most the Base the handed text goes, from what has come of it on.
func TestRA2SendsPieces(t *testing.T) {
	for _, n := range []int{0, 1, 1000, 1024 - 20, 1024 - 19, 2500, 3072} {
		s := raft.Stored{Term: 4, Log: logOf(5, 3, 4), Conf: conf.Conf{1, 2, 30}, Snap: snapOf(n)}
		c, _ := leading(t, 1, 4, s)
		l, text := with(s.Log, emptyOf(7, 5)), handedText(s.Conf, s.Snap)
		what := fmt.Sprintf("a text of %d bytes", n)
		tells(t, what+": not OK at the Base", added(c, 1, 2, false, 5), appends(1, 2, 5, 5, 3, 5, 0, l.L...))
		tells(t, what+": not OK ahead of it", added(c, 1, 2, false, 4), pieceOf(1, 2, 5, l, text, 0, 0))
		for off := 0; off < len(text); off += 1024 {
			got := c.Step(msg.Msg{Kind: msg.Pieced, From: 2, To: 1, Term: 5, Index: 5, Off: off}, 0)
			tells(t, fmt.Sprintf("%s, of which %d came", what, off), got, pieceOf(1, 2, 5, l, text, off, 0))
			tells(t, "its heart", c.Tick(0), pieceOf(1, 2, 5, l, text, off, 0), appends(1, 30, 5, 6, 4, 5, 0, l.L[1]))
		}
		if last := pieceOf(1, 2, 5, l, text, (len(text)-1)/1024*1024, 0); !last.OK {
			t.Fatal("no last piece")
		}
		got := c.Step(msg.Msg{Kind: msg.Pieced, From: 2, To: 1, Term: 5, OK: true, Index: 5}, 0)
		tells(t, what+", which is whole", got, appends(1, 2, 5, 5, 3, 5, 0, l.L...))
	}
}

// TestRA2SendsMembersOfOld: the handed text has the members of what was let go, not those of now.
func TestRA2SendsMembersOfOld(t *testing.T) {
	s := raft.Stored{Term: 4, Log: with(logOf(5, 3), memberOf(6, 4, 1, 2, 3)), Conf: all(2), Snap: []byte("abc")}
	c, _ := leading(t, 1, 4, s)
	tells(t, "it", added(c, 1, 3, false, 5), appends(1, 3, 5, 5, 3, 5, 0, s.Log.L[0], emptyOf(7, 5)))
	tells(t, "it", added(c, 1, 3, false, 0), pieceOf(1, 3, 5, s.Log, handedText(all(2), s.Snap), 0, 0))
	if !bytes.HasPrefix(handedText(all(2), nil), []byte("b9:n2;n1;n2;b0:")) {
		t.Error("another text")
	}
}

// TestRA2CommitsByItsOwnTerm: an entry of an older term is committed only with one of its own.
func TestRA2CommitsByItsOwnTerm(t *testing.T) {
	s := raft.Stored{Term: 2, Log: logOf(0, 0, 1, 1, 2), Conf: all(3)}
	c, _ := leading(t, 1, 4, s)
	for index := 1; index < 4; index++ {
		for _, who := range []int{2, 3} {
			if l := added(c, 1, who, true, index); len(l) != 1 {
				t.Errorf("OK at %d it tells%s", index, shownMsgs(l))
			}
			is(t, "only older ones", c, raft.View{Role: raft.Leader, Leader: 1})
		}
	}
	tells(t, "its own", added(c, 1, 3, true, 4), appends(1, 2, 3, 3, 2, 4, 0, emptyOf(4, 3)), appends(1, 3, 3, 4, 3, 4, 0))
	is(t, "its own", c, raft.View{Role: raft.Leader, Leader: 1, Commit: 4})
	tells(t, "the other one", added(c, 1, 2, true, 4))
}

// TestRA2CommitsByMajority: of odd and of even numbers of members, with the leader among them and not.
func TestRA2CommitsByMajority(t *testing.T) {
	for n := 2; n <= api.MaxMembers; n++ {
		for _, out := range []bool{false, true} {
			s := raft.Stored{Conf: all(n)}
			need := n / 2 // beside its own
			if out {
				if n == api.MaxMembers {
					continue
				}
				// It was one of them till an entry that is not committed yet.
				s = raft.Stored{Term: 1, Log: with(entry.Log{}, memberOf(1, 1, all(n)...)), Conf: append(all(n), n+1)}
				need = n/2 + 1
			}
			id := n
			if out {
				id = n + 1
			}
			c, _ := leading(t, id, 4, s)
			last, _ := entry.Last(c.Stored().Log)
			what := fmt.Sprintf("%d members, out %v", n, out)
			for who := 1; who < need; who++ {
				for range 2 { // twice of the same one counts once
					added(c, id, who, true, last)
				}
				is(t, what, c, raft.View{Role: raft.Leader, Leader: id})
			}
			added(c, id, 60, true, last) // none of them does not count
			is(t, what, c, raft.View{Role: raft.Leader, Leader: id})
			added(c, id, need, true, last)
			want := raft.View{Role: raft.Leader, Leader: id, Commit: last}
			if out {
				want = raft.View{Commit: last}
			}
			is(t, what, c, want)
		}
	}
}

// TestRA2CommitsWhatAMajorityHas: the greatest index that more than half have, of unlike ones.
func TestRA2CommitsWhatAMajorityHas(t *testing.T) {
	c, _ := leading(t, 1, 4, raft.Stored{Conf: all(5)})
	for range 9 {
		c.Propose(entry.Order, nil)
	}
	for _, x := range []struct{ who, index, commit int }{{2, 9, 0}, {3, 4, 4}, {4, 7, 7}, {5, 3, 7}, {3, 8, 8}, {5, 10, 9}, {4, 10, 10}, {2, 10, 10}} {
		added(c, 1, x.who, true, x.index)
		is(t, fmt.Sprintf("behind %v", x), c, raft.View{Role: raft.Leader, Leader: 1, Commit: x.commit})
	}
}

// TestRA2AdvanceTells: when something is committed all others are told, whoever's answer it was; when nothing is, nobody.
func TestRA2AdvanceTells(t *testing.T) {
	c, _ := leading(t, 1, 4, raft.Stored{Conf: all(5)})
	tells(t, "one of five", added(c, 1, 2, true, 1))
	e := emptyOf(1, 1)
	tells(t, "two of five", added(c, 1, 4, true, 1), appends(1, 2, 1, 1, 1, 1, 0), appends(1, 3, 1, 0, 0, 1, 0, e), appends(1, 4, 1, 1, 1, 1, 0), appends(1, 5, 1, 0, 0, 1, 0, e))
	tells(t, "three of five", added(c, 1, 3, true, 1))
	tells(t, "one again", added(c, 1, 2, true, 1))
}

// TestRA2AdvanceAndSend: who has not all yet is sent the rest behind what all are told.
func TestRA2AdvanceAndSend(t *testing.T) {
	c, _ := leading(t, 1, 4, raft.Stored{Conf: all(3)})
	c.Propose(entry.Order, []byte("1/2"))
	l := []entry.Entry{emptyOf(1, 1), orderOf(2, 1)}
	tells(t, "the first of two", added(c, 1, 2, true, 1),
		appends(1, 2, 1, 1, 1, 1, 0, l[1]), appends(1, 3, 1, 0, 0, 1, 0, l...), appends(1, 2, 1, 1, 1, 1, 0, l[1]))
}

// TestRA2OutTillBoth: a leader that is out leads till that is committed, not till an entry ahead of it is.
func TestRA2OutTillBoth(t *testing.T) {
	c, _ := leading(t, 1, 4, raft.Stored{Conf: all(3)})
	added(c, 1, 2, true, 1)
	added(c, 1, 3, true, 1)
	c.Propose(entry.Order, nil)
	index, _, err := c.Propose(entry.Member, conf.Encode(conf.Conf{2, 3}))
	if index != 3 || err != nil {
		t.Fatalf("Propose: %d, %v", index, err)
	}
	added(c, 1, 2, true, 2)
	is(t, "one has what is ahead", c, raft.View{Role: raft.Leader, Leader: 1, Commit: 1})
	added(c, 1, 3, true, 2)
	is(t, "both have what is ahead", c, raft.View{Role: raft.Leader, Leader: 1, Commit: 2})
	added(c, 1, 3, true, 3)
	is(t, "one has it", c, raft.View{Role: raft.Leader, Leader: 1, Commit: 2})
	tells(t, "both have it", added(c, 1, 2, true, 3))
	is(t, "both have it", c, raft.View{Commit: 3})
	if _, _, err := c.Propose(entry.Order, nil); err != api.ErrLead {
		t.Errorf("Propose: %v", err)
	}
	silent(t, "it", c, 40)
}

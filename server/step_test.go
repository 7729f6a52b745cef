package server_test

import (
	"fmt"
	"slices"
	"strings"
	"testing"

	"tollbar/api"
	"tollbar/conf"
	"tollbar/entry"
	"tollbar/msg"
	"tollbar/raft"
	"tollbar/seal"
	"tollbar/server"
	"tollbar/session"
)

// empty is the entry that a leader begins its term with.
func empty(index, term int) entry.Entry { return entry.Entry{Index: index, Term: term} }

// ordered is an entry of a command, memberOf one of members.
func ordered(index, term int, c session.Command) entry.Entry {
	return entry.Entry{Index: index, Term: term, Kind: entry.Order, Data: session.EncodeCommand(c)}
}

func memberOf(index, term int, who ...int) entry.Entry {
	return entry.Entry{Index: index, Term: term, Kind: entry.Member, Data: conf.Encode(who)}
}

// appended is an Append of a leader.
func appended(from, to, term, index, logTerm, commit, round int, l ...entry.Entry) msg.Msg {
	return msg.Msg{Kind: msg.Append, From: from, To: to, Term: term, Index: index, LogTerm: logTerm, Commit: commit, Round: round, Entries: l}
}

// TestSV2Tick: time that goes on: a Vote to all others, in order, which is saved ahead, and a leader's heart; each draw is that of the wait that begins.
func TestSV2Tick(t *testing.T) {
	d := disks(t, 1<<16)
	c := of(2, 4)
	c.Span = 8
	s := opens(t, d, c)
	for n := range 7 {
		sends(t, fmt.Sprint("tick ", n+1), ticks(t, s, 1))
	}
	o, err := s.Tick(13) // 13 by 9: 4 more
	sends(t, "the last tick of the wait", does(t, o, err),
		msg.Msg{Kind: msg.Vote, From: 2, To: 1, Term: 1}, msg.Msg{Kind: msg.Vote, From: 2, To: 3, Term: 1}, msg.Msg{Kind: msg.Vote, From: 2, To: 4, Term: 1})
	if got := saved(t, d); got.Term != 1 || got.Vote != 2 {
		t.Errorf("kept: %s", shownStored(got))
	}
	for n := range 11 {
		sends(t, fmt.Sprint("tick ", n+1), ticks(t, s, 1))
	}
	if o := ticks(t, s, 1); len(o.To) != 3 || s.Term() != 2 {
		t.Errorf("behind a wait of 12: %s", shownOut(o))
	}
	hears(t, s, msg.Msg{Kind: msg.Voted, From: 1, To: 2, Term: 2, OK: true})
	hears(t, s, msg.Msg{Kind: msg.Voted, From: 4, To: 2, Term: 2, OK: true})
	sends(t, "one tick of two", ticks(t, s, 1))
	to := func(who int) msg.Msg { return appended(2, who, 2, 0, 0, 0, 0, empty(1, 2)) }
	sends(t, "the heart", ticks(t, s, 1), to(1), to(3), to(4))
	if got := saved(t, d); got.Term != 2 || len(got.Log.L) != 1 {
		t.Errorf("kept: %s", shownStored(got))
	}
}

// TestSV2Form: bytes that are no frame change nothing.
func TestSV2Form(t *testing.T) {
	s, d := leads(t, of(1, 3))
	asked(t, s, asks(1, 1, opening()))
	good := msg.Seal(added(2, 1, 2, 0))
	mayNot := msg.Seal(msg.Msg{Kind: msg.Vote, From: 2, To: 2, Term: 5})
	other, err := seal.Seal(110, msg.Encode(added(2, 1, 2, 0)))
	if err != nil {
		t.Fatal(err)
	}
	frames := map[string][]byte{
		"nothing": nil, "no bytes": {}, "some": []byte("n1;n2;"), "a message without a sum": msg.Encode(added(2, 1, 2, 0)),
		"one of another kind": other, "of a message that may not be": mayNot, "cut": good[:len(good)-1], "with one more": append(slices.Clone(good), 0),
		"of noughts": make([]byte, 20), "long": []byte(strings.Repeat("x", 5000)),
	}
	for i := range good {
		b := slices.Clone(good)
		b[i] ^= 1 << (i % 8)
		frames[fmt.Sprint("spoilt at ", i)] = b
	}
	for what, b := range frames {
		still(t, what, s, d, func() {
			o, err := s.Hear(b, 3)
			refused(t, what, o, err, api.ErrForm)
		})
	}
	o, err := s.Hear(good, 3)
	tells(t, "the frame itself", does(t, o, err), answer(1, 1, 1, session.Reply{Session: 2}))
}

// TestSV2FormDraws: they are heard by nobody: a wait neither begins nor ends by them.
func TestSV2FormDraws(t *testing.T) {
	s := opens(t, disks(t, 4000), of(1, 3))
	for n := range 4 {
		if s.View().Role != raft.Follower {
			t.Errorf("it stands behind %d ticks", n)
		}
		s.Hear([]byte("?"), 3)
		ticks(t, s, 1)
	}
	if s.View().Role != raft.Candidate {
		t.Errorf("it does not stand: %s", shown(s))
	}
}

// TestSV2Others: frames to others, and of what nobody can have sent, do nothing.
func TestSV2Others(t *testing.T) {
	for _, s := range []*server.Server{opens(t, disks(t, 1<<16), of(1, 3)), first(leads(t, of(1, 3)))} {
		before := shown(s)
		for what, m := range map[string]msg.Msg{
			"a Vote to 2":              {Kind: msg.Vote, From: 3, To: 2, Term: 9},
			"an Append to 2":           appended(3, 2, 9, 0, 0, 1, 1, empty(1, 9)),
			"to one that is none":      {Kind: msg.Vote, From: 3, To: 64, Term: 9},
			"of a term that is to be":  {Kind: msg.Vote, From: 3, To: 1, Term: 9, LogTerm: 10},
			"an entry of a later term": appended(3, 1, 9, 0, 0, 1, 1, empty(1, 10)),
		} {
			o := hears(t, s, m)
			if shownOut(o) != "" || shown(s) != before {
				t.Errorf("%s: %s, %s, not %s", what, shownOut(o), shown(s), before)
			}
		}
	}
}

// first is the member of those two.
func first[A, B any](a A, _ B) A { return a }

// TestSV2Vote: a Vote, and a Voted.
func TestSV2Vote(t *testing.T) {
	d := disks(t, 1<<16)
	s := opens(t, d, of(1, 3))
	sends(t, "a Vote", hears(t, s, msg.Msg{Kind: msg.Vote, From: 2, To: 1, Term: 3}), msg.Msg{Kind: msg.Voted, From: 1, To: 2, Term: 3, OK: true})
	if got := saved(t, d); got.Term != 3 || got.Vote != 2 {
		t.Errorf("kept: %s", shownStored(got))
	}
	sends(t, "a Vote of another one", hears(t, s, msg.Msg{Kind: msg.Vote, From: 3, To: 1, Term: 3}), msg.Msg{Kind: msg.Voted, From: 1, To: 3, Term: 3})
	sends(t, "a Vote of an older term", hears(t, s, msg.Msg{Kind: msg.Vote, From: 3, To: 1, Term: 2}), msg.Msg{Kind: msg.Voted, From: 1, To: 3, Term: 3})
	ticks(t, s, 4)
	if got := saved(t, d); got.Term != 4 || got.Vote != 1 {
		t.Errorf("kept: %s", shownStored(got))
	}
	sends(t, "a Voted that is not OK", hears(t, s, msg.Msg{Kind: msg.Voted, From: 2, To: 1, Term: 4}))
	o := hears(t, s, msg.Msg{Kind: msg.Voted, From: 2, To: 1, Term: 4, OK: true})
	sends(t, "a Voted", o, appended(1, 2, 4, 0, 0, 0, 0, empty(1, 4)), appended(1, 3, 4, 0, 0, 0, 0, empty(1, 4)))
	if got := saved(t, d); got.Term != 4 || len(got.Log.L) != 1 {
		t.Errorf("kept: %s", shownStored(got))
	}
}

// TestSV2Draw: the draw of a Hear is that of the wait that begins by it.
func TestSV2Draw(t *testing.T) {
	for what, m := range map[string]msg.Msg{
		"Vote": {Kind: msg.Vote, From: 2, To: 1, Term: 3}, "Append": appended(2, 1, 3, 0, 0, 0, 0), "Piece": {Kind: msg.Piece, From: 2, To: 1, Term: 3, Index: 1, LogTerm: 1},
	} {
		for draw, want := range []int{4, 5, 6, 7, 8, 4} {
			s := opens(t, disks(t, 4000), of(1, 3))
			ticks(t, s, 3)
			o, err := s.Hear(msg.Seal(m), draw)
			does(t, o, err)
			n := 0
			for s.View().Role == raft.Follower {
				ticks(t, s, 1)
				n++
			}
			if n != want {
				t.Errorf("%s: it stands behind %d ticks, not %d", what, n, want)
			}
		}
	}
}

// TestSV2Append: an Append, which is saved ahead of its Added, and does what is committed; an Added.
func TestSV2Append(t *testing.T) {
	d := disks(t, 1<<16)
	s := opens(t, d, of(1, 3))
	yes := func(index, round int) msg.Msg {
		return msg.Msg{Kind: msg.Added, From: 1, To: 2, Term: 3, OK: true, Index: index, Round: round}
	}
	l := []entry.Entry{empty(1, 2), ordered(2, 2, opening()), ordered(3, 3, asking(2, 1, add("r"))), ordered(4, 3, asking(2, 2, add("a")))}
	sends(t, "an Append", hears(t, s, appended(2, 1, 3, 0, 0, 1, 5, l[:2]...)), yes(2, 5))
	if got := saved(t, d); got.Term != 3 || len(got.Log.L) != 2 || s.Applied() != 1 {
		t.Errorf("kept: %s, %s", shownStored(got), shown(s))
	}
	sends(t, "one that is not there", hears(t, s, appended(2, 1, 3, 5, 3, 9, 6)), msg.Msg{Kind: msg.Added, From: 1, To: 2, Term: 3, Index: 2, Round: 6})
	sends(t, "one behind", hears(t, s, appended(2, 1, 3, 2, 2, 3, 7, l[2:]...)), yes(4, 7))
	if string(s.Table()) != string(table(t, 2, opening(), 3, asking(2, 1, add("r"))).Encode()) || s.Applied() != 3 || s.View().Leader != 2 {
		t.Errorf("done: %s", shown(s))
	}
	sends(t, "the same again", hears(t, s, appended(2, 1, 3, 2, 2, 3, 7, l[2:]...)), yes(4, 7))
	sends(t, "one without entries", hears(t, s, appended(2, 1, 3, 4, 3, 4, 8)), yes(4, 8))
	if string(s.Table()) != string(table(t, 2, opening(), 3, asking(2, 1, add("r")), 4, asking(2, 2, add("a"))).Encode()) || s.Applied() != 4 {
		t.Errorf("done: %s", shown(s))
	}
	sends(t, "of an older term", hears(t, s, appended(3, 1, 2, 4, 2, 4, 8)), msg.Msg{Kind: msg.Added, From: 1, To: 3, Term: 3})
	s, d = leads(t, of(1, 3))
	sends(t, "an Added that is not OK", hears(t, s, msg.Msg{Kind: msg.Added, From: 2, To: 1, Term: 1}), appended(1, 2, 1, 0, 0, 0, 0, empty(1, 1)))
	sends(t, "an Added", hears(t, s, added(3, 1, 1, 0)), appended(1, 2, 1, 0, 0, 1, 0, empty(1, 1)), appended(1, 3, 1, 1, 1, 1, 0))
	if got := saved(t, d); got.Term != 1 || s.Applied() != 1 {
		t.Errorf("kept: %s, %s", shownStored(got), shown(s))
	}
}

// TestSV2Change: members that are near, and who must wait, is told otherwise, or does not lead: of these nothing has changed.
func TestSV2Change(t *testing.T) {
	fails := func(what string, s *server.Server, c conf.Conf, want api.Errno) {
		t.Helper()
		before := shown(s)
		o, err := s.Change(c)
		refused(t, what, o, err, want)
		if shown(s) != before {
			t.Errorf("%s: from %s to %s", what, before, shown(s))
		}
	}
	s := opens(t, disks(t, 1<<16), of(1, 3))
	fails("a follower", s, conf.Conf{1, 2}, api.ErrLead)
	fails("a follower, members that may not be", s, nil, api.ErrLead)
	ticks(t, s, 4)
	fails("a candidate", s, conf.Conf{1, 2}, api.ErrLead)
	s, d := leads(t, of(1, 3))
	still(t, "nothing is committed of its term", s, d, func() { fails("not yet", s, conf.Conf{1, 2}, api.ErrWait) })
	still(t, "nothing is committed of its term", s, d, func() { fails("not yet, the same", s, conf.Conf{1, 2, 3}, api.ErrWait) })
	settles(t, s)
	for _, c := range []conf.Conf{nil, {}, {1, 2, 3}, {1}, {1, 2, 4}, {2, 1}, {0, 1, 2, 3}, {1, 2, 3, 65}, {-1, 1, 2, 3}, {1, 1, 2, 3}, {1, 2, 3, 4, 5}} {
		still(t, "not near", s, d, func() { fails(fmt.Sprint(c), s, c, api.ErrArg) })
	}
	o, err := s.Change(conf.Conf{1, 2, 3, 5})
	// Of 2 it knows that it has all, of 3 nothing: to that it sends what it sent at first; 5 is behind.
	sends(t, "Change", does(t, o, err), appended(1, 2, 1, 1, 1, 1, 0, memberOf(2, 1, 1, 2, 3, 5)), appended(1, 3, 1, 0, 0, 1, 0, empty(1, 1), memberOf(2, 1, 1, 2, 3, 5)), appended(1, 5, 1, 2, 1, 1, 0))
	if got := saved(t, d); len(got.Log.L) != 2 || shownEntry(got.Log.L[1]) != shownEntry(memberOf(2, 1, 1, 2, 3, 5)) || !slices.Equal(s.Conf(), conf.Conf{1, 2, 3, 5}) {
		t.Errorf("kept: %s, %s", shownStored(got), shown(s))
	}
	still(t, "one that is not committed", s, d, func() { fails("one more", s, conf.Conf{1, 2, 3}, api.ErrWait) })
	still(t, "one that is not committed", s, d, func() { fails("none at all", s, nil, api.ErrWait) })
	hears(t, s, added(2, 1, 2, 0))
	hears(t, s, added(3, 1, 2, 0))
	o, err = s.Change(conf.Conf{2, 3, 5})
	does(t, o, err)
	if !slices.Equal(s.Conf(), conf.Conf{2, 3, 5}) || s.View().Role != raft.Leader {
		t.Errorf("who leaves: %s", shown(s))
	}
	hears(t, s, added(2, 1, 3, 0))
	hears(t, s, added(3, 1, 3, 0))
	if s.View().Role != raft.Follower || s.View().Leader != 0 || s.Applied() != 3 {
		t.Errorf("who has left: %s", shown(s))
	}
	fails("who has left", s, conf.Conf{1, 2, 3, 5}, api.ErrLead)
}

// TestSV2ChangeAnswers: of fewer members a majority may have heard already, and have committed.
func TestSV2ChangeAnswers(t *testing.T) {
	s, _ := leads(t, of(1, 2))
	settles(t, s)
	tells(t, "a read", asked(t, s, reads(3, 1, query("r"))))
	o, err := s.Change(conf.Conf{1})
	tells(t, "Change", does(t, o, err), answer(3, 1, 1, session.Reply{Answer: order8()}))
	if s.Applied() != 2 || s.Waits() != 0 || !slices.Equal(s.Conf(), conf.Conf{1}) {
		t.Errorf("behind it: %s", shown(s))
	}
	o, err = s.Change(conf.Conf{1, 2})
	if does(t, o, err); s.Applied() != 2 || len(o.To) != 1 || o.To[0] != 2 {
		t.Errorf("and back: %s, %s", shownOut(o), shown(s))
	}
}

package server_test

import (
	"fmt"
	"slices"
	"testing"

	"tollbar/api"
	"tollbar/client"
	"tollbar/conf"
	"tollbar/entry"
	"tollbar/msg"
	"tollbar/order"
	"tollbar/raft"
	"tollbar/session"
)

// TestSV4Entries: requests that wait for entries are answered once their index is done, in the order of their indexes, each the reply to its own; those behind wait on.
func TestSV4Entries(t *testing.T) {
	s, _ := leads(t, of(1, 3))
	settles(t, s)
	asked(t, s, asks(1, 1, opening()))
	asked(t, s, asks(2, 1, opening()))
	asked(t, s, asks(1, 2, asking(2, 1, add("r"))))
	asked(t, s, asks(1, 2, asking(2, 1, add("r")))) // the same again
	asked(t, s, asks(2, 2, asking(3, 1, add("r"))))
	asked(t, s, asks(2, 3, asking(3, 1, query("r"))))
	tells(t, "up to 1", hears(t, s, added(2, 1, 1, 0)))
	tells(t, "up to 2", hears(t, s, added(3, 1, 2, 0)), answer(1, 1, 1, session.Reply{Session: 2}))
	tells(t, "up to 2, once more", hears(t, s, added(2, 1, 2, 0)))
	if s.Waits() != 5 {
		t.Errorf("behind 2: %s", shown(s))
	}
	made := session.Reply{Session: 2, Answer: order5()}
	tells(t, "up to 5", hears(t, s, added(3, 1, 5, 0)), answer(2, 1, 1, session.Reply{Session: 3}), answer(1, 2, 1, made), answer(1, 2, 1, made))
	twice := session.Reply{Session: 3, Answer: order.Answer{Err: 9}}
	tells(t, "up to 7", hears(t, s, added(2, 1, 7, 0)), answer(2, 2, 1, twice), answer(2, 3, 1, twice))
	if s.Waits() != 0 || s.Applied() != 7 {
		t.Errorf("behind all: %s", shown(s))
	}
}

// TestSV4NoCommand: an entry that was no command: nothing is done, and the reply is a zero one.
func TestSV4NoCommand(t *testing.T) {
	s, _ := leads(t, of(1, 3))
	settles(t, s)
	asked(t, s, asks(1, 1, opening()))
	asked(t, s, asks(1, 2, noCommand()))
	c := asking(2, 1, add("r"))
	c.Order.Use.Amount = -1
	asked(t, s, asks(1, 3, c)) // of what is no amount nothing is laid
	asked(t, s, asks(1, 4, session.Command{Kind: 7}))
	asked(t, s, asks(1, 5, asking(9, 1, add("r"))))
	tells(t, "all", settles(t, s), answer(1, 1, 1, session.Reply{Session: 2}), answer(1, 2, 1, session.Reply{}), answer(1, 3, 1, session.Reply{}), answer(1, 4, 1, session.Reply{Err: 1}), answer(1, 5, 1, session.Reply{Err: 24}))
	if string(s.Table()) != string(table(t, 2, opening()).Encode()) {
		t.Errorf("done: %q", s.Table())
	}
}

// TestSV4Kinds: an entry of another kind than Order does nothing, whatever its data.
func TestSV4Kinds(t *testing.T) {
	s := opens(t, disks(t, 1<<16), of(1, 3))
	x := ordered(1, 1, opening())
	x.Kind = entry.Empty
	hears(t, s, appended(2, 1, 1, 0, 0, 3, 0, x, memberOf(2, 1, 1, 2), ordered(3, 1, opening())))
	if string(s.Table()) != string(table(t, 3, opening()).Encode()) || s.Applied() != 3 {
		t.Errorf("done: %s", shown(s))
	}
	// As no leader sends it: a request's entry goes, and then another one of its term, of another kind, stands there.
	for _, x := range []entry.Entry{empty(2, 1), memberOf(2, 1, 1, 2)} {
		s, _ := leads(t, of(1, 3))
		settles(t, s)
		asked(t, s, asks(1, 1, opening()))
		hears(t, s, appended(2, 1, 2, 1, 1, 1, 0, empty(2, 2)))
		hears(t, s, appended(2, 1, 2, 1, 1, 1, 0, x))
		tells(t, "of another kind", hears(t, s, appended(2, 1, 2, 2, 1, 2, 0)), answer(1, 1, 2, session.Reply{}))
		if s.Waits() != 0 || string(s.Table()) != string(table(t).Encode()) {
			t.Errorf("done: %s", shown(s))
		}
	}
}

// TestSV4Term: an index that is done with an entry of another term: somebody else led; and not a step earlier.
func TestSV4Term(t *testing.T) {
	s, _ := leads(t, of(1, 3))
	settles(t, s)
	asked(t, s, asks(1, 1, opening()))
	asked(t, s, asks(1, 2, opening()))
	asked(t, s, asks(1, 3, opening()))
	tells(t, "it leads no more", hears(t, s, msg.Msg{Kind: msg.Vote, From: 3, To: 1, Term: 2}))
	tells(t, "another one leads", hears(t, s, appended(2, 1, 3, 1, 1, 1, 0)))
	tells(t, "it has other entries", hears(t, s, appended(2, 1, 3, 1, 1, 1, 0, empty(2, 3), ordered(3, 3, opening()))))
	if s.Waits() != 3 {
		t.Errorf("they wait: %s", shown(s))
	}
	tells(t, "2 is done", hears(t, s, appended(2, 1, 3, 3, 3, 2, 0)), fault(1, 1, 2, api.ErrLead))
	tells(t, "2 is done already", hears(t, s, appended(2, 1, 3, 3, 3, 2, 0)))
	ticks(t, s, 4)
	tells(t, "5 leads", hears(t, s, appended(5, 1, 9, 3, 3, 3, 0, ordered(4, 9, opening()))), fault(1, 2, 5, api.ErrLead))
	tells(t, "all is done", hears(t, s, appended(5, 1, 9, 4, 9, 4, 0)), fault(1, 3, 5, api.ErrLead))
	if string(s.Table()) != string(table(t, 3, opening(), 4, opening()).Encode()) || s.Waits() != 0 {
		t.Errorf("done: %s", shown(s))
	}
}

// TestSV4OwnTerm: entries of one that leads no more are its requests' yet: done by whoever leads, they are answered with their replies.
func TestSV4OwnTerm(t *testing.T) {
	s, _ := leads(t, of(1, 3))
	settles(t, s)
	asked(t, s, asks(1, 1, opening()))
	asked(t, s, asks(1, 2, asking(2, 1, add("r"))))
	tells(t, "another one leads", hears(t, s, appended(2, 1, 3, 3, 1, 1, 0, empty(4, 3))))
	tells(t, "one is done", hears(t, s, appended(2, 1, 3, 4, 3, 2, 0)), answer(1, 1, 2, session.Reply{Session: 2}))
	tells(t, "nobody leads", hears(t, s, msg.Msg{Kind: msg.Vote, From: 3, To: 1, Term: 4}))
	stands(t, s)
	if s.Waits() != 1 || s.Term() != 5 {
		t.Errorf("it leads again: %s", shown(s))
	}
	tells(t, "all is done", settles(t, s), answer(1, 2, 1, session.Reply{Session: 2, Answer: order5()}))
}

// TestSV4Twice: two that wait for one index, of two terms: the one had another entry there than the other one; the order is that in which they were asked.
func TestSV4Twice(t *testing.T) {
	s, _ := leads(t, of(1, 3))
	settles(t, s)
	asked(t, s, asks(1, 1, opening())) // 2, of the term 1
	asked(t, s, asks(1, 2, opening())) // 3
	hears(t, s, appended(2, 1, 2, 1, 1, 1, 0, empty(2, 2)))
	stands(t, s)                       // 3
	asked(t, s, asks(2, 1, opening())) // 4, of the term 3
	hears(t, s, appended(2, 1, 4, 2, 2, 1, 0, ordered(3, 4, opening())))
	stands(t, s)                       // 4
	asked(t, s, asks(3, 1, opening())) // 5, of the term 5
	hears(t, s, appended(2, 1, 6, 2, 2, 1, 0, empty(3, 6)))
	stands(t, s)                       // 4
	asked(t, s, asks(3, 2, opening())) // 5, of the term 7
	if s.Waits() != 5 {
		t.Fatalf("they wait: %s", shown(s))
	}
	tells(t, "all", settles(t, s), fault(1, 1, 1, api.ErrLead), fault(1, 2, 1, api.ErrLead), fault(2, 1, 1, api.ErrLead), fault(3, 1, 1, api.ErrLead), answer(3, 2, 1, session.Reply{Session: 5}))
}

// TestSV4Stable: many that wait for one of two indexes, each of another term: by their indexes, and those of one as they were asked.
func TestSV4Stable(t *testing.T) {
	s, _ := leads(t, with(of(1, 3), 50, 100))
	settles(t, s)
	var want [2][]client.Answer
	for n := range 30 {
		hears(t, s, appended(2, 1, s.Term()+1, 1, 1, 1, 0, empty(2, s.Term()+1)))
		stands(t, s)
		for i := range want {
			asked(t, s, asks(i, n, opening()))
			a := fault(i, n, 1, api.ErrLead)
			if n == 29 {
				a = answer(i, n, 1, session.Reply{Session: 4 + i})
			}
			want[i] = append(want[i], a)
		}
	}
	tells(t, "all", settles(t, s), slices.Concat(want[0], want[1])...)
}

// TestSV4Order: the order of their indexes is not that in which they were asked.
func TestSV4Order(t *testing.T) {
	s, _ := leads(t, of(1, 3))
	settles(t, s)
	for n := range 4 {
		asked(t, s, asks(1, n, opening())) // 2 to 5, of the term 1
	}
	hears(t, s, appended(2, 1, 2, 1, 1, 1, 0, empty(2, 2)))
	stands(t, s)                       // 3
	asked(t, s, asks(2, 1, opening())) // 4, of the term 3
	asked(t, s, asks(2, 2, opening())) // 5
	asked(t, s, asks(2, 3, opening())) // 6
	tells(t, "all", settles(t, s), fault(1, 0, 1, api.ErrLead), fault(1, 1, 1, api.ErrLead), fault(1, 2, 1, api.ErrLead), answer(2, 1, 1, session.Reply{Session: 4}),
		fault(1, 3, 1, api.ErrLead), answer(2, 2, 1, session.Reply{Session: 5}), answer(2, 3, 1, session.Reply{Session: 6}))
}

// TestSV4Text: what is done at once by a text: what the entries came to can't be told.
func TestSV4Text(t *testing.T) {
	x := table(t, 2, opening(), 3, asking(2, 1, add("r"))).Encode()
	for _, term := range []int{1, 2} {
		s, d := leads(t, of(1, 3))
		settles(t, s)
		asked(t, s, asks(1, 1, opening()))
		asked(t, s, asks(1, 2, asking(2, 1, add("r"))))
		asked(t, s, asks(1, 3, asking(2, 2, add("a"))))
		asked(t, s, reads(1, 4, query("r")))
		m := piece(2, 3, 3, term, conf.Conf{1, 2, 3}, x)
		tells(t, "a text up to 3", hears(t, s, m), fault(1, 1, 2, api.ErrLead), fault(1, 2, 2, api.ErrLead), fault(1, 4, 2, api.ErrLead))
		if s.Applied() != 3 || s.Waits() != 1 || string(s.Table()) != string(x) || string(saved(t, d).Snap) != string(x) {
			t.Errorf("behind a text: %s", shown(s))
		}
		// Where its own entry 3 is of the text's term, those behind are its own yet.
		if term == 1 {
			tells(t, "and 4", hears(t, s, appended(2, 1, 3, 4, 1, 4, 0)), answer(1, 3, 2, session.Reply{Session: 2, Answer: order5()}))
		} else {
			tells(t, "and 4", hears(t, s, appended(2, 1, 3, 3, 2, 4, 0, ordered(4, 3, opening()))), fault(1, 3, 2, api.ErrLead))
		}
	}
}

// piece is a handed text, as one piece.
func piece(from, term, index, logTerm int, c conf.Conf, snap []byte) msg.Msg {
	return msg.Msg{Kind: msg.Piece, From: from, To: 1, Term: term, Index: index, LogTerm: logTerm, OK: true, Data: handed(c, snap)}
}

// TestSV4Rounds: requests that wait for rounds are answered once these are heard, in their order, as it is then.
func TestSV4Rounds(t *testing.T) {
	s, _ := leads(t, of(1, 5))
	settles(t, s)
	hears(t, s, added(3, 1, 1, 0))
	for n := 1; n <= 4; n++ {
		tells(t, "a read", asked(t, s, reads(1, n, query("r"))))
	}
	none := session.Reply{Answer: order8()}
	tells(t, "2 has heard of 2", hears(t, s, added(2, 1, 1, 2)))
	tells(t, "2 has heard of 2, again", hears(t, s, added(2, 1, 1, 2)))
	tells(t, "3 has heard of 1", hears(t, s, added(3, 1, 1, 1)), answer(1, 1, 1, none))
	tells(t, "3 has heard of 1, again", hears(t, s, added(3, 1, 1, 1)))
	tells(t, "4 has heard of 1", hears(t, s, added(4, 1, 1, 1)))
	tells(t, "4 has heard of 4", hears(t, s, added(4, 1, 1, 4)), answer(1, 2, 1, none))
	tells(t, "somebody else has heard of 4", hears(t, s, added(9, 1, 1, 4)))
	tells(t, "5 has heard of 4", hears(t, s, added(5, 1, 1, 4)), answer(1, 3, 1, none), answer(1, 4, 1, none))
	if s.Waits() != 0 {
		t.Errorf("behind all: %s", shown(s))
	}
}

// TestSV4NotOK: who tells that it has not the entries has heard of the round all the same.
func TestSV4NotOK(t *testing.T) {
	s, _ := leads(t, of(1, 3))
	settles(t, s)
	asked(t, s, reads(1, 1, query("r")))
	tells(t, "not OK", hears(t, s, msg.Msg{Kind: msg.Added, From: 3, To: 1, Term: 1, Round: 1}), answer(1, 1, 1, session.Reply{Answer: order8()}))
	asked(t, s, reads(1, 2, query("r")))
	tells(t, "of an older term", hears(t, s, msg.Msg{Kind: msg.Added, From: 3, To: 1, Term: 1, Round: 1}))
	tells(t, "Pieced", hears(t, s, msg.Msg{Kind: msg.Pieced, From: 3, To: 1, Term: 1, Round: 2}), answer(1, 2, 1, session.Reply{Answer: order8()}))
}

// TestSV4AsOfThen: a read is answered of what is done when its round is heard, and of what is done in that step, too.
func TestSV4AsOfThen(t *testing.T) {
	s, _ := leads(t, of(1, 3))
	settles(t, s)
	asked(t, s, reads(1, 1, query("r")))
	asked(t, s, asks(1, 2, opening()))
	asked(t, s, asks(1, 3, asking(2, 1, add("r"))))
	asked(t, s, reads(1, 4, query("r")))
	have, none := session.Reply{Answer: order5()}, session.Reply{Answer: order8()}
	tells(t, "the first round", hears(t, s, added(2, 1, 2, 1)), answer(1, 2, 1, session.Reply{Session: 2}), answer(1, 1, 1, none))
	tells(t, "the second one, and the last entry", hears(t, s, added(3, 1, 3, 2)), answer(1, 3, 1, session.Reply{Session: 2, Answer: order5()}), answer(1, 4, 1, have))
	asked(t, s, reads(1, 5, query("r")))
	asked(t, s, asks(1, 6, asking(2, 2, query("r"))))
	asked(t, s, reads(1, 7, query("r")))
	tells(t, "entries, then rounds", hears(t, s, added(3, 1, 4, 4)), answer(1, 6, 1, session.Reply{Session: 2, Answer: order5()}), answer(1, 5, 1, have), answer(1, 7, 1, have))
}

// TestSV4Alone: a member alone hears of its rounds at once.
func TestSV4Alone(t *testing.T) {
	s, _ := leads(t, of(1, 1))
	for n := range 3 {
		tells(t, "a read", asked(t, s, reads(1, n, query("r"))), answer(1, n, 1, session.Reply{Answer: order8()}))
		tells(t, "Open", asked(t, s, asks(2, n, opening())), answer(2, n, 1, session.Reply{Session: n + 2}))
	}
	if s.View().Round != 3 || s.Waits() != 0 {
		t.Errorf("behind all: %s", shown(s))
	}
}

// TestSV4NoLeader: a member that leads no more, or in another term: what waits for a round is answered so at once, in order, what waits for an entry waits on.
func TestSV4NoLeader(t *testing.T) {
	for what, m := range map[string]msg.Msg{
		"a Vote":            {Kind: msg.Vote, From: 3, To: 1, Term: 2},
		"an Append":         appended(3, 1, 2, 1, 1, 1, 0),
		"one of its term":   appended(3, 1, 1, 1, 1, 1, 0),
		"an Added":          added(3, 2, 1, 0),
		"a Piece":           {Kind: msg.Piece, From: 3, To: 1, Term: 2, Index: 7, LogTerm: 2},
		"a Voted":           {Kind: msg.Voted, From: 3, To: 1, Term: 2},
		"an Added, heard":   added(3, 2, 1, 9),
		"Members, not read": appended(3, 1, 2, 1, 1, 1, 0, entry.Entry{Index: 2, Term: 2, Kind: entry.Member, Data: []byte("?")}),
	} {
		s, _ := leads(t, of(1, 3))
		settles(t, s)
		asked(t, s, reads(1, 1, query("r")))
		asked(t, s, asks(1, 2, opening()))
		asked(t, s, reads(1, 3, query("r")))
		leader := 0
		if m.Kind == msg.Append && m.Entries == nil || m.Kind == msg.Piece {
			leader = 3
		}
		tells(t, what, hears(t, s, m), fault(1, 1, leader, api.ErrLead), fault(1, 3, leader, api.ErrLead))
		tells(t, what+", again", hears(t, s, m))
		if s.Waits() != 1 || s.View().Role != raft.Follower {
			t.Errorf("%s: %s", what, shown(s))
		}
		if s.Term() == 2 {
			stands(t, s)
			tells(t, what+": rounds of old", hears(t, s, added(2, 3, 1, 9)))
			tells(t, what+": all is done", settles(t, s), answer(1, 2, 1, session.Reply{Session: 2}))
		}
	}
}

// TestSV4Both: in one step entries are done and rounds lost: the entries' answers come first, though they were asked last.
func TestSV4Both(t *testing.T) {
	s, _ := leads(t, of(1, 3))
	settles(t, s)
	asked(t, s, reads(1, 1, query("r")))
	asked(t, s, asks(1, 2, opening()))
	asked(t, s, asks(1, 3, opening()))
	tells(t, "another one leads", hears(t, s, appended(2, 1, 2, 2, 1, 3, 0, empty(3, 2))), answer(1, 2, 2, session.Reply{Session: 2}), fault(1, 3, 2, api.ErrLead), fault(1, 1, 2, api.ErrLead))
}

// TestSV4Heard: what is committed when a read is asked for is done by then: the index of a read that waits is done as soon as it is asked.
func TestSV4Heard(t *testing.T) {
	s, _ := leads(t, of(1, 3))
	settles(t, s)
	for n := range 5 {
		asked(t, s, asks(1, n, opening()))
		tells(t, fmt.Sprint("entry ", n), hears(t, s, added(2+n%2, 1, n+2, n)), answer(1, n, 1, session.Reply{Session: n + 2}))
		if s.Applied() != s.View().Commit {
			t.Errorf("committed and not done: %s", shown(s))
		}
		asked(t, s, reads(2, n, query("r")))
		tells(t, fmt.Sprint("round ", n), hears(t, s, added(2+n%2, 1, n+2, n+1)), answer(2, n, 1, session.Reply{Answer: order8()}))
	}
}

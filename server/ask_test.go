package server_test

import (
	"fmt"
	"strings"
	"testing"

	"tollbar/api"
	"tollbar/client"
	"tollbar/conf"
	"tollbar/entry"
	"tollbar/msg"
	"tollbar/order"
	"tollbar/raft"
	"tollbar/server"
	"tollbar/session"
)

// requests are such that go through the log, such that read, and such that may not.
func requests() map[string]client.Request {
	return map[string]client.Request{
		"Open": asks(5, 1, opening()), "Ask": asks(5, 1, asking(2, 1, add("r"))), "a Query through the log": asks(5, 1, asking(2, 1, query("r"))),
		"no command": asks(5, 1, noCommand()), "too long": asks(5, 1, tooLong()), "of no kind": asks(5, 1, session.Command{}),
		"a read": reads(5, 1, query("r")), "a read of no kind": reads(5, 1, order.Order{}), "a read that changes something": reads(5, 1, add("r")),
		"a read that opens": {Client: 5, Number: 1, Reads: true, Command: opening()},
	}
}

// TestSV3Lead: a member that does not lead answers at once that somebody else does, and who, if it knows.
func TestSV3Lead(t *testing.T) {
	d := disks(t, 1<<16)
	s := opens(t, d, of(1, 3))
	none := func(what string, leader int) {
		t.Helper()
		for name, r := range requests() {
			still(t, what+": "+name, s, d, func() {
				o := asked(t, s, r)
				tells(t, what+": "+name, o, fault(5, 1, leader, api.ErrLead))
				sends(t, what+": "+name, o)
			})
		}
	}
	none("opened", 0)
	ticks(t, s, 4)
	none("a candidate", 0)
	hears(t, s, appended(2, 1, 3, 0, 0, 0, 0, empty(1, 3)))
	none("a follower of 2", 2)
	hears(t, s, msg.Msg{Kind: msg.Vote, From: 3, To: 1, Term: 4})
	none("a follower of nobody", 0)
	stands(t, s)
	hears(t, s, appended(3, 1, 9, 0, 0, 0, 0, empty(1, 9)))
	none("one that led", 3)
}

// TestSV3Wait: a leader of a term in which nothing is committed yet takes what goes through the log, and nothing that reads.
func TestSV3Wait(t *testing.T) {
	for _, settled := range []bool{false, true} {
		s, d := leads(t, of(1, 3))
		if settled {
			settles(t, s)
			hears(t, s, appended(2, 1, 5, 1, 1, 1, 0))
			stands(t, s)
		}
		for _, name := range []string{"a read", "a read of no kind", "a read that changes something", "a read that opens"} {
			still(t, name, s, d, func() {
				o := asked(t, s, requests()[name])
				tells(t, name, o, fault(5, 1, 1, api.ErrWait))
				sends(t, name, o)
			})
		}
		tells(t, "Open", asked(t, s, asks(5, 2, opening())))
		if s.Waits() != 1 {
			t.Errorf("behind Open: %s", shown(s))
		}
		still(t, "too long", s, d, func() { tells(t, "too long", asked(t, s, asks(5, 3, tooLong())), fault(5, 3, 1, api.ErrLong)) })
	}
}

// TestSV3Log: what goes through the log is an entry, which is saved, sent and waited for.
func TestSV3Log(t *testing.T) {
	s, d := leads(t, of(1, 3))
	settles(t, s)
	log := []entry.Entry{empty(1, 1)}
	for i, name := range []string{"Open", "Ask", "a Query through the log", "no command", "of no kind"} {
		r := requests()[name]
		o := asked(t, s, r)
		log = append(log, ordered(2+i, 1, r.Command))
		tells(t, name, o)
		// 2 has the first entry, of 3 nothing is known.
		sends(t, name, o, appended(1, 2, 1, 1, 1, 1, 0, log[1:]...), appended(1, 3, 1, 0, 0, 1, 0, log...))
		if got := saved(t, d); s.Waits() != i+1 || len(got.Log.L) != 2+i || shownEntry(got.Log.L[1+i]) != shownEntry(log[1+i]) {
			t.Errorf("%s: %s, %s", name, shown(s), shownStored(got))
		}
	}
	still(t, "too long", s, d, func() {
		o := asked(t, s, requests()["too long"])
		tells(t, "too long", o, fault(5, 1, 1, api.ErrLong))
		sends(t, "too long", o)
	})
}

// TestSV3Reads: what reads is a round, which is sent and waited for, and no entry.
func TestSV3Reads(t *testing.T) {
	s, d := leads(t, of(1, 3))
	settles(t, s)
	untouched(t, "reads", d, func() {
		for i, name := range []string{"a read", "a read of no kind", "a read that opens"} {
			o := asked(t, s, requests()[name])
			tells(t, name, o)
			sends(t, name, o, appended(1, 2, 1, 1, 1, 1, i+1), appended(1, 3, 1, 0, 0, 1, i+1, empty(1, 1)))
			if s.Waits() != i+1 || s.View().Round != i+1 {
				t.Errorf("%s: %s", name, shown(s))
			}
		}
	})
	tells(t, "all of them heard", hears(t, s, added(3, 1, 1, 3)), answer(5, 1, 1, session.Reply{Answer: order8()}), answer(5, 1, 1, session.Reply{Answer: order.Answer{Err: 1}}), answer(5, 1, 1, session.Reply{Answer: order.Answer{Err: 1}}))
}

// TestSV3Changes: one that says that it reads, and changes something, is refused, behind raft.Read: its round has begun, and is told, but nobody waits for it.
func TestSV3Changes(t *testing.T) {
	s, _ := leads(t, of(1, 3))
	settles(t, s)
	for i, kind := range []int{order.Admit, order.Release, order.SetQuota, order.AddNode, order.RemoveNode} {
		o := add("r")
		o.Kind = kind
		out := asked(t, s, reads(5, i, o))
		tells(t, fmt.Sprint("kind ", kind), out, fault(5, i, 1, api.ErrArg))
		sends(t, fmt.Sprint("kind ", kind), out, appended(1, 2, 1, 1, 1, 1, i+1), appended(1, 3, 1, 0, 0, 1, i+1, empty(1, 1)))
		if s.Waits() != 0 || s.View().Round != i+1 || string(s.Table()) != string(table(t).Encode()) {
			t.Errorf("kind %d: %s", kind, shown(s))
		}
	}
	tells(t, "all heard", hears(t, s, added(2, 1, 1, 9)))
	s, _ = leads(t, of(1, 1))
	tells(t, "of a member alone", asked(t, s, reads(5, 1, add("r"))), fault(5, 1, 1, api.ErrArg))
}

// TestSV3Busy: as many requests wait as may, of either kind: one more is answered at once, and nothing is done; once one is answered there is room.
func TestSV3Busy(t *testing.T) {
	for wait := 1; wait <= 4; wait++ {
		for kinds := range 1 << wait {
			s, d := leads(t, with(of(1, 3), 50, wait))
			settles(t, s)
			what := fmt.Sprintf("%d wait, of the kinds %b", wait, kinds)
			for i := range wait {
				r := asks(1, i, opening())
				if kinds>>i&1 == 1 {
					r = reads(1, i, query("r"))
				}
				tells(t, what, asked(t, s, r))
			}
			if s.Waits() != wait {
				t.Errorf("%s: %s", what, shown(s))
			}
			d.Arm(0)
			for name, r := range requests() {
				still(t, what+", "+name, s, d, func() {
					o := asked(t, s, r)
					tells(t, what+", "+name, o, fault(5, 1, 1, api.ErrBusy))
					sends(t, what+", "+name, o)
				})
			}
			d.Start(nil)
			last := len(shownEntries(s))
			if o := hears(t, s, added(2, 1, last, s.View().Round)); len(o.Answers) != wait || s.Waits() != 0 {
				t.Errorf("%s: answered%s", what, shownOut(o))
			}
			tells(t, what+", then", asked(t, s, reads(1, 9, query("r"))))
			if s.Waits() != 1 {
				t.Errorf("%s, then: %s", what, shown(s))
			}
		}
	}
}

// shownEntries are a member's entries from 1 on.
func shownEntries(s *server.Server) []string {
	var l []string
	for {
		e, err := s.Entry(len(l) + 1)
		if err != nil {
			return l
		}
		l = append(l, shownEntry(e))
	}
}

// TestSV3BusyFollower: as many wait as may also where it leads no more: that comes ahead of who leads.
func TestSV3BusyFollower(t *testing.T) {
	s, d := leads(t, with(of(1, 3), 50, 2))
	asked(t, s, asks(1, 1, opening()))
	asked(t, s, asks(1, 2, opening()))
	hears(t, s, appended(2, 1, 4, 0, 0, 0, 0, empty(1, 4)))
	for name, r := range requests() {
		still(t, name, s, d, func() { tells(t, name, asked(t, s, r), fault(5, 1, 2, api.ErrBusy)) })
	}
}

// TestSV3Many: layer 14's room is that of all that wait: as many reads as may wait do.
func TestSV3Many(t *testing.T) {
	for _, wait := range []int{7, 4096} {
		s, d := leads(t, with(of(1, 3), 50, wait))
		settles(t, s)
		for i := range wait {
			if o := asked(t, s, reads(1, i, query("r"))); len(o.Answers) != 0 || s.Waits() != i+1 || s.View().Round != i+1 {
				t.Fatalf("read %d of %d: %s", i, wait, shownOut(o))
			}
		}
		still(t, "one more", s, d, func() { tells(t, "one more", asked(t, s, reads(1, wait, query("r"))), fault(1, wait, 1, api.ErrBusy)) })
		o := hears(t, s, added(3, 1, 1, wait))
		if len(o.Answers) != wait || s.Waits() != 0 {
			t.Fatalf("%d are answered", len(o.Answers))
		}
		for i, a := range o.Answers {
			if a != answer(1, i, 1, session.Reply{Answer: order8()}) {
				t.Fatalf("answer %d: %s", i, shownAnswer(a))
			}
		}
	}
}

// full is a log of as many entries as may be, less some.
func full(less int) entry.Log {
	var l entry.Log
	for i := range api.MaxList - less {
		l.L = append(l.L, empty(i+1, 1))
	}
	return l
}

// TestSV3Full: a log that has no room for an entry more; all of it let go there is room again.
func TestSV3Full(t *testing.T) {
	d := laidOn(t, disks(t, 1<<20), raft.Stored{Term: 1, Conf: conf.Conf{1, 2}, Log: full(2)})
	s := opens(t, d, of(1, 2))
	stands(t, s)
	tells(t, "the last one", asked(t, s, asks(1, 1, opening())))
	untouched(t, "no room", d, func() {
		o := asked(t, s, asks(1, 2, opening()))
		tells(t, "one more", o, fault(1, 2, 1, api.ErrFull))
		sends(t, "one more", o)
		tells(t, "one too long", asked(t, s, asks(1, 3, tooLong())), fault(1, 3, 1, api.ErrLong))
	})
	if _, err := s.Entry(api.MaxList + 1); err != api.ErrNone || s.Waits() != 1 {
		t.Errorf("behind them: %v, %d", err, s.Waits())
	}
	tells(t, "all is committed", hears(t, s, added(2, s.Term(), api.MaxList, 0)), answer(1, 1, 1, session.Reply{Session: api.MaxList}))
	if _, err := s.Entry(api.MaxList); err != api.ErrOld || s.Waits() != 0 {
		t.Errorf("behind it: %v", err)
	}
	tells(t, "then", asked(t, s, asks(1, 4, opening())))
	tells(t, "at last", hears(t, s, added(2, s.Term(), api.MaxList+1, 0)), answer(1, 4, 1, session.Reply{Session: api.MaxList + 1}))
}

// TestSV3Long: a command of just as many bytes as an entry may have, and of one more.
func TestSV3Long(t *testing.T) {
	s, _ := leads(t, of(1, 1))
	c := tooLong()
	n := len(session.EncodeCommand(c)) - 4096
	c.Order.Node.Name = c.Order.Node.Name[n:]
	if len(session.EncodeCommand(c)) != 4096 {
		t.Fatalf("%d bytes", len(session.EncodeCommand(c)))
	}
	tells(t, "as long as may be", asked(t, s, asks(1, 1, c)), answer(1, 1, 1, session.Reply{}))
	c.Order.Node.Name += "n"
	tells(t, "longer", asked(t, s, asks(1, 2, c)), fault(1, 2, 1, api.ErrLong))
	if s.Applied() != 2 {
		t.Errorf("done: %d", s.Applied())
	}
}

// TestSV3Who: the client and the number of an answer are those of the request, whatever they are.
func TestSV3Who(t *testing.T) {
	s, _ := leads(t, with(of(1, 1), 50, 1))
	follower := opens(t, disks(t, 4000), of(1, 3))
	for _, who := range []int{-1, 0, 1, 64, 65, api.MaxIndex + 1} {
		for _, number := range []int{-9, 0, 1, api.MaxIndex + 1} {
			tells(t, "a read", asked(t, s, reads(who, number, query("r"))), answer(who, number, 1, session.Reply{Answer: order8()}))
			tells(t, "a read that changes something", asked(t, s, reads(who, number, add("r"))), fault(who, number, 1, api.ErrArg))
			index := s.Applied() + 1
			tells(t, "Close", asked(t, s, asks(who, number, session.Command{Kind: session.Close, Session: index})), answer(who, number, 1, session.Reply{Err: 24}))
			tells(t, "of a follower", asked(t, follower, asks(who, number, opening())), fault(who, number, 0, api.ErrLead))
		}
	}
}

// TestSV3Removed: a leader that is none of the members any more, once that is committed, leads no more: what its entries came to is answered all the same.
func TestSV3Removed(t *testing.T) {
	s, _ := leads(t, of(1, 3))
	settles(t, s)
	o, err := s.Change(conf.Conf{2, 3})
	does(t, o, err)
	tells(t, "Open", asked(t, s, asks(1, 1, opening())))
	tells(t, "a read", asked(t, s, reads(1, 2, query("r"))))
	// Of two members both must have it.
	tells(t, "2 has it", hears(t, s, added(2, 1, 3, 0)))
	tells(t, "3 has it", hears(t, s, added(3, 1, 3, 0)), answer(1, 1, 0, session.Reply{Session: 3}), fault(1, 2, 0, api.ErrLead))
	if v := s.View(); v.Role != raft.Follower || v.Leader != 0 || s.Waits() != 0 {
		t.Errorf("behind it: %s", shown(s))
	}
}

// TestSV3Names: which names a command may have to be one: of 32 bytes, and not of 33.
func TestSV3Names(t *testing.T) {
	s, _ := leads(t, of(1, 1))
	asked(t, s, asks(1, 1, opening()))
	tells(t, "32 bytes", asked(t, s, asks(1, 2, asking(2, 1, add(strings.Repeat("n", 32))))), answer(1, 2, 1, session.Reply{Session: 2, Answer: order5()}))
	before := string(s.Table())
	tells(t, "33 bytes", asked(t, s, asks(1, 3, asking(2, 2, add(strings.Repeat("n", 33))))), answer(1, 3, 1, session.Reply{}))
	if string(s.Table()) != before || s.Applied() != 4 {
		t.Errorf("no command has done something: %s", shown(s))
	}
}

package server_test

import (
	"slices"
	"testing"

	"tollbar/client"
	"tollbar/conf"
	"tollbar/disk"
	"tollbar/msg"
	"tollbar/server"
	"tollbar/session"
)

// roomy is a list with spare room, in which something stands.
func roomy[S ~[]T, T any](l S, other T) S {
	own := append(make(S, 0, len(l)+5), l...)
	for i := len(own); i < cap(own); i++ {
		own[:cap(own)][i] = other
	}
	return own
}

// spoil writes over a list, its spare room too.
func spoil[S ~[]T, T byte | int](l S) {
	for i := range l[:cap(l)] {
		l[:cap(l)][i] = T(77 + i%3)
	}
}

// spoilOut writes over all that was answered, each list with a mark of its own: where two share memory, one has the other's.
func (y *drawn) spoilOut(o server.Out) {
	y.t.Helper()
	for n, b := range o.Frames {
		for i := range b[:cap(b)] {
			b[:cap(b)][i] = byte(n)
		}
	}
	for n, b := range o.Frames {
		if slices.ContainsFunc(b[:cap(b)], func(c byte) bool { return c != byte(n) }) {
			y.fail("two frames share memory")
		}
	}
	spoil(o.To)
	clear(o.Frames[:cap(o.Frames)])
	for i := range o.Answers[:cap(o.Answers)] {
		o.Answers[:cap(o.Answers)][i] = client.Answer{Number: -1}
	}
	spoil(y.s.Conf())
	spoil(y.s.Table())
	for index := max(0, y.s.Applied()-20); index < y.s.Applied()+20; index++ {
		if e, err := y.s.Entry(index); err == nil {
			spoil(e.Data)
		}
	}
}

// TestRule3Told: what is told twice is not the same memory, and what is told is not what is kept.
func TestRule3Told(t *testing.T) {
	s, d := leads(t, of(1, 3))
	asked(t, s, asks(1, 1, opening()))
	settles(t, s)
	before := shown(s)
	for range 2 {
		a, b := s.Conf(), s.Conf()
		spoil(a)
		if !slices.Equal(b, conf.Conf{1, 2, 3}) {
			t.Errorf("Conf: %v", b)
		}
		x, y := s.Table(), s.Table()
		spoil(x)
		if string(y) != string(table(t, 2, opening()).Encode()) {
			t.Errorf("Table: %q", y)
		}
		e, _ := s.Entry(2)
		f, _ := s.Entry(2)
		spoil(e.Data)
		if shownEntry(f) != shownEntry(ordered(2, 1, opening())) {
			t.Errorf("Entry: %s", shownEntry(f))
		}
	}
	if shown(s) != before {
		t.Errorf("%s, not %s", shown(s), before)
	}
	// The frames of one step are the same but for whom they are: they share nothing all the same.
	ticks(t, s, 1)
	hears(t, s, added(3, 1, 2, 0))
	o := ticks(t, s, 1)
	if len(o.Frames) != 2 {
		t.Fatalf("a heart:%s", shownOut(o))
	}
	want := slices.Clone(o.Frames[1])
	spoil(o.Frames[0])
	if !slices.Equal(o.Frames[1], want) {
		t.Errorf("two frames share memory")
	}
	if shown(s) != before || len(saved(t, d).Log.L) != 2 {
		t.Errorf("%s, not %s", shown(s), before)
	}
}

// TestRule3First: the members at first are neither changed nor kept.
func TestRule3First(t *testing.T) {
	for _, d := range []*disk.Disk{disks(t, 4000), laid(t, kept(t))} {
		c := of(1, 3)
		c.First = roomy(c.First, 9)
		s := opens(t, d, c)
		if !slices.Equal(c.First[:cap(c.First)], roomy(conf.Conf{1, 2, 3}, 9)[:cap(c.First)]) {
			t.Errorf("First was changed: %v", c.First)
		}
		before := shown(s)
		spoil(c.First)
		if shown(s) != before {
			t.Errorf("First was kept: %s", shown(s))
		}
	}
}

// TestRule3Between: calls that tell something change nothing, whatever they are asked, nor do others' steps.
func TestRule3Between(t *testing.T) {
	s, d := leads(t, of(1, 3))
	settles(t, s)
	asked(t, s, asks(1, 1, opening()))
	asked(t, s, reads(1, 2, query("r")))
	still(t, "what only tells", s, d, func() {
		for range 3 {
			s.View()
			s.Term()
			s.Conf()
			s.Applied()
			s.Table()
			s.Entry(1)
			s.Entry(9)
			s.Waits()
			s.Dead()
			for _, r := range requests() {
				s.Read(r.Command)
			}
			other, _ := leads(t, of(1, 3))
			hears(t, other, msg.Msg{Kind: msg.Vote, From: 2, To: 1, Term: 9})
		}
	})
	tells(t, "then", hears(t, s, added(2, 1, 2, 1)), answer(1, 1, 1, session.Reply{Session: 2}), answer(1, 2, 1, session.Reply{Answer: order8()}))
}

package server_test

import (
	"fmt"
	"slices"
	"strconv"
	"testing"

	"tollbar/api"
	"tollbar/conf"
	"tollbar/disk"
	"tollbar/entry"
	"tollbar/msg"
	"tollbar/order"
	"tollbar/raft"
	"tollbar/server"
	"tollbar/session"
)

// stepsOf is how many steps of the disk something has: the power's going in each of them counts them.
func stepsOf(t *testing.T, d *disk.Disk, c server.Config, do func(s *server.Server) error) int {
	t.Helper()
	for n := range 100 {
		x := d.Clone()
		s := opens(t, x, c)
		x.Arm(n)
		if do(s) == nil {
			return n
		}
	}
	t.Fatal("a step that never ends")
	return 0
}

// TestSV2Most: as many entries as Most stay, one more lets all go that is done, by the table's bytes, and is saved too.
func TestSV2Most(t *testing.T) {
	for _, most := range []int{1, 2, 5, 40} {
		s, d := leads(t, with(of(1, 1), most, 8))
		x := session.New()
		last := 1
		for last < 3*most+5 {
			base := saved(t, d).Log.Base
			c := opening()
			if last%2 == 0 {
				c = session.Command{Kind: session.Close, Session: last}
			}
			last++
			r := x.Apply(last, c)
			tells(t, fmt.Sprint("the command at ", last), asked(t, s, asks(1, last, c)), answer(1, last, 1, r))
			got := saved(t, d)
			if last-base <= most {
				if _, err := s.Entry(base + 1); err != nil || got.Log.Base != base || len(got.Log.L) != last-base {
					t.Errorf("Most %d: %d entries: %v, %s", most, last-base, err, shownStored(got))
				}
				continue
			}
			if _, err := s.Entry(last); err != api.ErrOld || got.Log.Base != last || got.Log.Term != 1 || len(got.Log.L) != 0 || string(got.Snap) != string(x.Encode()) {
				t.Errorf("Most %d: one more: %v, %s", most, err, shownStored(got))
			}
		}
		again := opens(t, d, with(of(1, 1), most, 8))
		if string(again.Table()) != string(saved(t, d).Snap) && saved(t, d).Snap != nil {
			t.Errorf("Most %d: again: %s", most, shown(again))
		}
	}
}

// TestSV2MostWaits: more entries than Most of which none is done behind Base stay; and of those that go only what is done does.
func TestSV2MostWaits(t *testing.T) {
	s, d := leads(t, with(of(1, 3), 3, 20))
	for n := range 6 {
		asked(t, s, asks(1, n, opening()))
		ticks(t, s, 1)
		if got := saved(t, d); got.Log.Base != 0 || len(got.Log.L) != n+2 {
			t.Errorf("nothing is done: %s", shownStored(got))
		}
	}
	hears(t, s, added(2, 1, 2, 0))
	got := saved(t, d)
	if got.Log.Base != 2 || len(got.Log.L) != 5 || string(got.Snap) != string(table(t, 2, opening()).Encode()) || s.Waits() != 5 {
		t.Errorf("2 is done: %s", shownStored(got))
	}
	for n := range 4 {
		asked(t, s, asks(1, 9+n, opening()))
		ticks(t, s, 1)
		if got := saved(t, d); got.Log.Base != 2 || len(got.Log.L) != 6+n {
			t.Errorf("nothing is done behind 2: %s", shownStored(got))
		}
	}
	hears(t, s, added(3, 1, 10, 0))
	if got := saved(t, d); got.Log.Base != 10 || len(got.Log.L) != 1 || s.Waits() != 1 {
		t.Errorf("10 is done: %s", shownStored(got))
	}
	hears(t, s, added(3, 1, 11, 0))
	if got := saved(t, d); got.Log.Base != 10 || len(got.Log.L) != 1 || s.Waits() != 0 || s.Applied() != 11 {
		t.Errorf("11 is done: %s", shownStored(got))
	}
}

// TestSV2MostOpen: a member that is opened with more entries than Most lets them go once something is done behind Base.
func TestSV2MostOpen(t *testing.T) {
	st := kept(t)
	d := laid(t, st)
	s := opens(t, d, with(of(1, 2), 1, 8))
	ticks(t, s, 3)
	if got := saved(t, d); got.Log.Base != 4 || len(got.Log.L) != 2 {
		t.Errorf("opened: %s", shownStored(got))
	}
	hears(t, s, appended(2, 1, 3, 6, 3, 5, 0))
	if got := saved(t, d); got.Log.Base != 5 || got.Log.Term != 2 || len(got.Log.L) != 1 || string(got.Snap) != string(s.Table()) || s.Applied() != 5 {
		t.Errorf("5 is done: %s", shownStored(got))
	}
}

// TestSV2MostMembers: with the entries the members go that they tell, and are kept as those at first.
func TestSV2MostMembers(t *testing.T) {
	s, d := leads(t, with(of(1, 1), 2, 8))
	o, err := s.Change(conf.Conf{1, 4})
	does(t, o, err)
	asked(t, s, asks(1, 1, opening()))
	if got := saved(t, d); !slices.Equal(got.Conf, conf.Conf{1}) || got.Log.Base != 1 || len(got.Log.L) != 2 {
		t.Errorf("ahead: %s", shownStored(got))
	}
	hears(t, s, added(4, 1, 2, 0))
	asked(t, s, asks(1, 2, opening()))
	asked(t, s, asks(1, 3, opening()))
	hears(t, s, added(4, 1, 3, 0))
	if got := saved(t, d); !slices.Equal(got.Conf, conf.Conf{1, 4}) || got.Log.Base != 3 || len(got.Log.L) != 2 || !slices.Equal(s.Conf(), conf.Conf{1, 4}) {
		t.Errorf("kept: %s", shownStored(got))
	}
}

// TestSV2Saves: a step in which nothing changes that must be kept is none of the disk's; one that lets entries go saves twice.
func TestSV2Saves(t *testing.T) {
	c := with(of(1, 1), 2, 8)
	s, d := leads(t, c)
	untouched(t, "a tick", d, func() { ticks(t, s, 1) })
	untouched(t, "a read", d, func() { asked(t, s, reads(1, 1, query("r"))) })
	tick := func(s *server.Server) error {
		for range 4 {
			if _, err := s.Tick(0); err != nil {
				return err
			}
		}
		return nil
	}
	if n := stepsOf(t, disks(t, 1<<16), of(1, 1), tick); n != 4 {
		t.Errorf("to lead has %d steps of the disk", n)
	}
	ask := func(s *server.Server) error {
		tick(s)
		_, err := s.Ask(asks(1, 1, opening()))
		return err
	}
	if n := stepsOf(t, disks(t, 1<<16), with(of(1, 1), 2, 8), ask); n != 8 {
		t.Errorf("to lead, and one entry, has %d steps of the disk", n)
	}
	if n := stepsOf(t, disks(t, 1<<16), with(of(1, 1), 1, 8), ask); n != 12 {
		t.Errorf("to lead, and one entry that lets both go, has %d steps of the disk", n)
	}
}

// rich is a table of more than one piece.
func rich(t *testing.T) *session.Table {
	t.Helper()
	x := table(t, 2, opening(), 3, asking(2, 1, add("r")))
	for n := range 50 {
		u := order.Order{Kind: order.Admit}
		u.Use.ID, u.Use.Node = "a-use-of-its-own-and-of-none:"+strconv.Itoa(n), "r"
		x.Apply(4+n, asking(2, 2+n, u))
	}
	if n := len(x.Encode()); n < 2000 || n > 3000 {
		t.Fatalf("a table of %d bytes", n)
	}
	return x
}

// TestSV2Handed: a leader that has let entries go hands their text over, piece by piece, to one that is behind; that one has the same table then, keeps it, and goes on.
func TestSV2Handed(t *testing.T) {
	x := rich(t)
	st := raft.Stored{Term: 1, Conf: conf.Conf{1, 2}, Snap: x.Encode(), Log: entry.Log{Base: 60, Term: 1}}
	one := opens(t, laid(t, st), of(1, 2))
	d := disks(t, 1<<16)
	two := opens(t, d, of(2, 2))
	ticks(t, one, 4)
	kinds := map[int]int{}
	var back [][]byte
	hand := func(s *server.Server, l [][]byte) [][]byte {
		var told [][]byte
		for _, b := range l {
			m, _ := msg.Open(b)
			kinds[m.Kind]++
			o, err := s.Hear(b, 0)
			told = append(told, does(t, o, err).Frames...)
		}
		return told
	}
	// 2 has an older log: it votes for 1.
	o := ticks(t, one, 8)
	for l := o.Frames; len(l) > 0; {
		back = hand(two, l)
		l = hand(one, back)
	}
	if kinds[msg.Piece] < 3 || kinds[msg.Pieced] != kinds[msg.Piece] {
		t.Errorf("went: %v", kinds)
	}
	if string(two.Table()) != string(x.Encode()) || two.Applied() != one.Applied() || two.Applied() != 61 || string(saved(t, d).Snap) != string(x.Encode()) {
		t.Errorf("behind it: %s\n%s", short(shown(one)), short(shown(two)))
	}
	o = asked(t, one, asks(1, 1, asking(2, 52, query("r"))))
	for l := o.Frames; len(l) > 0; {
		back = hand(two, l)
		l = hand(one, back)
	}
	if string(two.Table()) != string(one.Table()) || string(two.Table()) == string(x.Encode()) {
		t.Errorf("then: %s\n%s", short(shown(one)), short(shown(two)))
	}
	two = opens(t, d, of(2, 2))
	if string(two.Table()) != string(x.Encode()) || two.Applied() != 60 {
		t.Errorf("again: %s", short(shown(two)))
	}
}

// TestSV2NoTable: a text that is handed over and is no table stops the member for good; it has kept it, and is not opened of it.
func TestSV2NoTable(t *testing.T) {
	for _, text := range append(noTables(t), "") {
		if len(text) > 900 {
			text = text[:900]
		}
		s, d := leads(t, of(1, 3))
		settles(t, s)
		asked(t, s, asks(1, 1, opening()))
		asked(t, s, reads(1, 2, query("r")))
		before := string(s.Table())
		o, err := s.Hear(msg.Seal(piece(2, 3, 7, 2, conf.Conf{1, 2}, []byte(text))), 0)
		refused(t, fmt.Sprintf("the text %q", text), o, err, api.ErrHalt)
		if s.Applied() != 1 || string(s.Table()) != before || s.Waits() != 2 || s.View().Commit != 7 || s.Term() != 3 || !slices.Equal(s.Conf(), conf.Conf{1, 2}) {
			t.Errorf("behind it: %s", shown(s))
		}
		stopped(t, fmt.Sprintf("the text %q", text), s, d, api.ErrHalt)
		if got := saved(t, d); string(got.Snap) != text || got.Log.Base != 7 || got.Term != 3 {
			t.Errorf("kept: %s", shownStored(got))
		}
		if text == "" { // none is one that a member begins with
			again := opens(t, d, of(1, 3))
			if again.Applied() != 7 || string(again.Table()) != string(table(t).Encode()) {
				t.Errorf("again: %s", shown(again))
			}
			continue
		}
		unopened(t, "no table", d, of(1, 3), api.ErrHalt)
	}
}

// TestSV2OldText: a text of no more than what is committed is none that counts, whatever it is.
func TestSV2OldText(t *testing.T) {
	s, _ := leads(t, of(1, 3))
	asked(t, s, asks(1, 1, opening()))
	settles(t, s)
	before := string(s.Table())
	for _, index := range []int{0, 1, 2} {
		m := piece(2, 3, index, 1, conf.Conf{1, 2}, []byte("?"))
		sends(t, "an old text", hears(t, s, m), msg.Msg{Kind: msg.Pieced, From: 1, To: 2, Term: 3, OK: true, Index: index})
		if string(s.Table()) != before || s.Applied() != 2 || s.Dead() != nil {
			t.Errorf("behind it: %s", shown(s))
		}
	}
}

package server_test

import (
	"fmt"
	"testing"

	"tollbar/api"
	"tollbar/client"
	"tollbar/conf"
	"tollbar/disk"
	"tollbar/msg"
	"tollbar/raft"
	"tollbar/server"
	"tollbar/session"
)

// stopped looks at a member that is stopped: it answers the error that stopped it to all steps, whatever they are, and nothing changes any more, with the power on either.
func stopped(t *testing.T, what string, s *server.Server, d *disk.Disk, want api.Errno) {
	t.Helper()
	if err := s.Dead(); err != want {
		t.Errorf("%s: Dead: %v, not %v", what, err, want)
	}
	steps := map[string]func() (server.Out, error){
		"Tick":              func() (server.Out, error) { return s.Tick(1) },
		"Hear":              func() (server.Out, error) { return s.Hear(msg.Seal(appended(2, 1, 99, 0, 0, 0, 0)), 1) },
		"Hear of no frame":  func() (server.Out, error) { return s.Hear(nil, 1) },
		"Hear for another":  func() (server.Out, error) { return s.Hear(msg.Seal(appended(2, 3, 99, 0, 0, 0, 0)), 1) },
		"Change":            func() (server.Out, error) { return s.Change(conf.Conf{1, 2, 3, 4}) },
		"Change of no one":  func() (server.Out, error) { return s.Change(nil) },
		"Change of the now": func() (server.Out, error) { return s.Change(s.Conf()) },
	}
	for name, r := range requests() {
		steps["Ask: "+name] = func() (server.Out, error) { return s.Ask(r) }
	}
	for range 2 {
		for name, step := range steps {
			still(t, what+", "+name, s, d, func() {
				o, err := step()
				refused(t, what+", "+name, o, err, want)
			})
		}
	}
}

// cutting is a step within which the power goes: a member as it is ahead of it, made on a disk, and the step.
type cutting struct {
	name string
	c    server.Config
	make func(s *server.Server)
	step func(s *server.Server) (server.Out, error)
	ends int // how many steps of the disk it has
}

// cuttings are steps of each kind that save something, once or twice.
func cuttings(t *testing.T) []cutting {
	hear := func(m msg.Msg) func(s *server.Server) (server.Out, error) {
		return func(s *server.Server) (server.Out, error) { return s.Hear(msg.Seal(m), 0) }
	}
	ask := func(s *server.Server) (server.Out, error) { return s.Ask(asks(1, 1, opening())) }
	tick := func(s *server.Server) (server.Out, error) { return s.Tick(0) }
	wait := func(s *server.Server) { ticks(t, s, 3) }
	lead := func(s *server.Server) { stands(t, s) }
	committed := func(s *server.Server) { stands(t, s); settles(t, s) }
	waiting := func(s *server.Server) {
		committed(s)
		asked(t, s, asks(1, 7, opening()))
		asked(t, s, reads(1, 8, query("r")))
	}
	more := func(s *server.Server) { waiting(s); asked(t, s, asks(1, 9, opening())) }
	three := of(1, 3)
	return []cutting{
		{"to stand", three, wait, tick, 4},
		{"to lead", three, func(s *server.Server) { ticks(t, s, 4) }, hear(msg.Msg{Kind: msg.Voted, From: 2, To: 1, Term: 1, OK: true}), 4},
		{"to stand and lead alone", of(1, 1), wait, tick, 4},
		{"a Vote", three, func(*server.Server) {}, hear(msg.Msg{Kind: msg.Vote, From: 2, To: 1, Term: 3}), 4},
		{"an Append", three, func(*server.Server) {}, hear(appended(2, 1, 3, 0, 0, 2, 0, empty(1, 3), ordered(2, 3, opening()))), 4},
		{"an Append that takes away", three, waiting, hear(appended(2, 1, 3, 1, 1, 2, 0, ordered(2, 3, opening()))), 4},
		{"a text", three, waiting, hear(piece(2, 3, 3, 2, conf.Conf{1, 2}, table(t, 2, opening()).Encode())), 4},
		{"Ask", three, committed, ask, 4},
		{"Ask of one alone", of(1, 1), lead, ask, 4},
		{"Change", three, committed, func(s *server.Server) (server.Out, error) { return s.Change(conf.Conf{1, 2}) }, 4},
		{"Ask that lets go", with(of(1, 1), 1, 8), lead, ask, 8},
		{"an Append that lets go", with(three, 1, 8), waiting, hear(appended(2, 1, 3, 1, 1, 3, 0, ordered(2, 3, opening()), ordered(3, 3, opening()))), 8},
		{"an Added that lets go", with(three, 1, 8), more, hear(added(2, 1, 2, 1)), 4},
	}
}

// TestSV6Power: the power going in each step of the disk within a step: that step answers so, nothing is told, and no later step does anything; opened again, whatever is kept, it is as ahead of the step, or as what it should have saved.
func TestSV6Power(t *testing.T) {
	for _, x := range cuttings(t) {
		after := states(t, x)
		for step := range x.ends {
			for whole := range 2 {
				for part := range 30 {
					what := fmt.Sprintf("%s, step %d, kept %d %d", x.name, step, whole, part)
					d := disks(t, 3000)
					s := opens(t, d, x.c)
					x.make(s)
					d.Arm(step)
					o, err := x.step(s)
					refused(t, what, o, err, api.ErrDown)
					if part == 0 {
						stopped(t, what, s, d, api.ErrDown)
					}
					d.Start([]int{whole, part * 7})
					got := shownStored(saved(t, d))
					from := step / 4
					if got != after[from] && got != after[from+1] {
						t.Errorf("%s: kept\n  %s, neither\n  %s\nnor\n  %s", what, got, after[from], after[from+1])
					}
					if part == 0 {
						stopped(t, what+", the power on", s, d, api.ErrDown)
						goesOn(t, what, d, x.c)
					}
				}
			}
		}
	}
}

// states are what is kept ahead of a step, and behind each save within it.
func states(t *testing.T, x cutting) []string {
	t.Helper()
	var l []string
	for n := 0; n <= x.ends; n += 4 {
		d := disks(t, 3000)
		s := opens(t, d, x.c)
		x.make(s)
		d.Arm(n)
		_, err := x.step(s)
		if (err == nil) != (n == x.ends) {
			t.Fatalf("%s, behind %d steps: %v", x.name, n, err)
		}
		d.Start(nil)
		l = append(l, shownStored(saved(t, d)))
	}
	return l
}

// goesOn looks at that a member can be opened again, and goes on, alone or with 2.
func goesOn(t *testing.T, what string, d *disk.Disk, c server.Config) {
	t.Helper()
	s := opens(t, d, c)
	stands(t, s)
	if len(s.Conf()) > 1 {
		settles(t, s)
	}
	o := asked(t, s, asks(9, 9, opening()))
	if len(s.Conf()) > 1 {
		o = settles(t, s)
	}
	if len(o.Answers) != 1 || o.Answers[0].Err != 0 || o.Answers[0].Reply.Session != s.Applied() {
		t.Errorf("%s: opened again, it answers%s", what, shownOut(o))
	}
}

// TestSV6Dead: what is seen of a member behind a save that failed: what the core did is done, what hangs on its being saved is not.
func TestSV6Dead(t *testing.T) {
	s, d := leads(t, of(1, 1))
	d.Arm(2)
	o, err := s.Ask(asks(1, 1, opening()))
	refused(t, "Ask", o, err, api.ErrDown)
	if s.View().Commit != 2 || s.Applied() != 1 || s.Waits() != 1 || string(s.Table()) != string(table(t).Encode()) || s.Term() != 1 {
		t.Errorf("behind the save of an Ask: %s", shown(s))
	}
	if e, err := s.Entry(2); err != nil || shownEntry(e) != shownEntry(ordered(2, 1, opening())) {
		t.Errorf("Entry: %s, %v", shownEntry(e), err)
	}
	if r := s.Read(session.Command{Order: query("r")}); r != (session.Reply{Answer: order8()}) {
		t.Errorf("Read: %v", r)
	}
	s, d = leads(t, with(of(1, 1), 1, 8))
	d.Arm(6)
	o, err = s.Ask(asks(1, 1, opening()))
	refused(t, "Ask that lets go", o, err, api.ErrDown)
	if s.View().Commit != 2 || s.Applied() != 2 || s.Waits() != 0 || string(s.Table()) != string(table(t, 2, opening()).Encode()) {
		t.Errorf("behind the save of what is let go: %s", shown(s))
	}
	if _, err := s.Entry(2); err != api.ErrOld {
		t.Errorf("Entry: %v", err)
	}
}

// TestSV6Full: a disk that has no room for what must be kept stops a member as well; what it told until then is kept.
func TestSV6Full(t *testing.T) {
	d := disks(t, 400)
	s := opens(t, d, of(1, 1))
	stands(t, s)
	var told []client.Answer
	for n := range 100 {
		o, err := s.Ask(asks(1, n, opening()))
		if err != nil {
			refused(t, "no room", o, err, api.ErrFull)
			break
		}
		told = append(told, o.Answers...)
	}
	if len(told) < 2 || len(told) > 20 {
		t.Fatalf("told: %v", told)
	}
	stopped(t, "no room", s, d, api.ErrFull)
	got := saved(t, d)
	if len(got.Log.L) != 1+len(told) {
		t.Errorf("%d are told, kept: %s", len(told), shownStored(got))
	}
	s = opens(t, d, of(1, 1))
	if s.Dead() != nil || s.Term() != 1 || s.View() != (raft.View{}) {
		t.Errorf("again: %s", shown(s))
	}
}

// TestSV6Ahead: the power going right behind a step, nothing of what is not safe being kept: what was told is kept.
func TestSV6Ahead(t *testing.T) {
	for _, x := range cuttings(t) {
		d := disks(t, 3000)
		s := opens(t, d, x.c)
		x.make(s)
		o, err := x.step(s)
		does(t, o, err)
		d.Arm(0)
		d.Sync()
		d.Start(nil)
		got := saved(t, d)
		if got.Term != s.Term() || d.Waits() != 0 {
			t.Errorf("%s: kept: %s, not %s", x.name, shownStored(got), shown(s))
		}
		again := opens(t, d, x.c)
		for index := s.Applied() + 1; ; index++ {
			e, err := s.Entry(index)
			if err != nil {
				break
			}
			if other, err := again.Entry(index); err != nil || shownEntry(other) != shownEntry(e) {
				t.Errorf("%s: %s, %v, not %s", x.name, shownEntry(other), err, shownEntry(e))
			}
		}
	}
}

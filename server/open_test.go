package server_test

import (
	"fmt"
	"math"
	"slices"
	"strings"
	"testing"

	"tollbar/api"
	"tollbar/conf"
	"tollbar/disk"
	"tollbar/entry"
	"tollbar/msg"
	"tollbar/raft"
	"tollbar/server"
	"tollbar/session"
	"tollbar/stable"
)

// unopened looks at an Open that must fail.
func unopened(t *testing.T, what string, d *disk.Disk, c server.Config, want api.Errno) {
	t.Helper()
	if s, err := server.Open(d, c, 0); err == nil || err != want || s != nil {
		t.Errorf("Open, %s: %v, %v, not %v", what, s, err, want)
	}
}

// untouched looks at that something changes nothing of a disk.
func untouched(t *testing.T, what string, d *disk.Disk, do func()) {
	t.Helper()
	bytes, waits := bytesOf(t, d), d.Waits()
	do()
	if bytesOf(t, d) != bytes || d.Waits() != waits {
		t.Errorf("%s: the disk was written", what)
	}
}

// kept is something that may be kept: a text of a table up to 4, and two entries behind.
func kept(t *testing.T) raft.Stored {
	t.Helper()
	return raft.Stored{
		Term: 3, Vote: 2, Conf: conf.Conf{1, 2}, Snap: table(t, 2, opening(), 4, asking(2, 1, add("r"))).Encode(),
		Log: entry.Log{Base: 4, Term: 2, L: []entry.Entry{
			{Index: 5, Term: 2, Kind: entry.Order, Data: session.EncodeCommand(asking(2, 2, add("a")))},
			{Index: 6, Term: 3},
		}},
	}
}

// noTables are texts that are none of a table.
func noTables(t *testing.T) []string {
	b := string(kept(t).Snap)
	return []string{"?", b[:len(b)-1], b + "n0;", "b0:n0;", "b4:n0;n", "\x00", strings.Repeat("t", 2000)}
}

// broken is a disk of which one of the tapes begins with a mark that is none.
func broken(t *testing.T, size, at int) *disk.Disk {
	t.Helper()
	d := disks(t, size)
	if err := d.Write(at, []byte{2}); err != nil {
		t.Fatalf("Write: %v", err)
	}
	d.Sync()
	return d
}

// off is a disk without power.
func off(d *disk.Disk) *disk.Disk {
	d.Arm(0)
	d.Sync()
	return d
}

// TestSV1Bounds: Most and Wait just within and just beyond what may be; nothing is done to the disk where they may not.
func TestSV1Bounds(t *testing.T) {
	for _, n := range []int{1, 2, 3, 100, 2047, 2048} {
		opens(t, disks(t, 4000), with(of(1, 3), n, 1))
	}
	for _, n := range []int{1, 2, 3, 100, 2049, 4095, 4096} {
		opens(t, disks(t, 4000), with(of(1, 3), 1, n))
	}
	opens(t, disks(t, 4000), with(of(1, 3), 2048, 4096))
	none := []int{math.MinInt, -4096, -1, 0, math.MaxInt, 1 << 32, 1<<32 + 1}
	for _, d := range []*disk.Disk{disks(t, 4000), laid(t, kept(t))} {
		for _, n := range slices.Concat(none, []int{2049, 2050, 4095, 4096}) {
			untouched(t, "Most", d, func() { unopened(t, fmt.Sprint("Most ", n), d, with(of(1, 3), n, 8), api.ErrArg) })
		}
		for _, n := range slices.Concat(none, []int{4097, 4098, 8192}) {
			untouched(t, "Wait", d, func() { unopened(t, fmt.Sprint("Wait ", n), d, with(of(1, 3), 8, n), api.ErrArg) })
		}
	}
}

// TestSV1Stable: a disk that stable can't open, and members at first that may not be.
func TestSV1Stable(t *testing.T) {
	unopened(t, "no disk", nil, of(1, 3), api.ErrArg)
	unopened(t, "no bytes", &disk.Disk{}, of(1, 3), api.ErrArg)
	unopened(t, "too small for tapes", disks(t, 9), of(1, 3), api.ErrArg)
	unopened(t, "too small for a save", disks(t, 70), of(1, 3), api.ErrFull)
	unopened(t, "no power", off(disks(t, 4000)), of(1, 3), api.ErrDown)
	unopened(t, "a mark of the first half", broken(t, 4000, 0), of(1, 3), api.ErrHalt)
	unopened(t, "a mark of the second half", broken(t, 4000, 2000), of(1, 3), api.ErrHalt)
	opens(t, broken(t, 4000, 1999), of(1, 3))
	for step := range 4 {
		d := disks(t, 4000)
		d.Arm(step)
		unopened(t, fmt.Sprint("the power going in step ", step), d, of(1, 3), api.ErrDown)
	}
	d := disks(t, 4000)
	d.Arm(4)
	opens(t, d, of(1, 3))
	for _, first := range []conf.Conf{nil, {}, {0}, {65}, {2, 1}, {1, 1}, {1, 2, 3, 4, 5, 6, 7, 8}} {
		c := of(1, 3)
		c.First = first
		for _, d := range []*disk.Disk{disks(t, 4000), laid(t, kept(t))} {
			untouched(t, "First", d, func() { unopened(t, fmt.Sprint("First ", first), d, c, api.ErrArg) })
		}
	}
}

// TestSV1Raft: what raft can't begin from; by then an empty disk has been begun.
func TestSV1Raft(t *testing.T) {
	for _, id := range []int{1, 2, 63, 64} {
		c := of(id, 3)
		opens(t, disks(t, 4000), c)
	}
	for _, span := range []int{2, 3, 999, 1000} {
		c := of(1, 3)
		c.Span = span
		opens(t, disks(t, 4000), c)
	}
	var bad []server.Config
	for _, n := range []int{math.MinInt, -1, 0, 65, 66, 1<<32 + 1, math.MaxInt} {
		c := of(n, 3)
		bad = append(bad, c)
	}
	for _, n := range []int{math.MinInt, -1, 0, 1, 1001, 1<<32 + 2, math.MaxInt} {
		c := of(1, 3)
		c.Span = n
		bad = append(bad, c)
	}
	for _, c := range bad {
		d := disks(t, 4000)
		unopened(t, fmt.Sprintf("%v", c), d, c, api.ErrArg)
		if got := shownStored(saved(t, d)); got != shownStored(raft.Stored{Conf: conf.Conf{1, 2, 3}}) {
			t.Errorf("%v: %s is kept", c, got)
		}
		d = laid(t, kept(t))
		untouched(t, "behind a save", d, func() { unopened(t, fmt.Sprintf("%v, behind a save", c), d, c, api.ErrArg) })
	}
}

// TestSV1Order: which error is named where several would be.
func TestSV1Order(t *testing.T) {
	bad := of(0, 3)
	none := with(of(1, 3), 0, 0)
	noFirst := of(1, 0)
	snap := kept(t)
	snap.Snap = []byte("?")
	unopened(t, "Most, and no power", off(disks(t, 4000)), none, api.ErrArg)
	unopened(t, "Wait, and no power", off(disks(t, 4000)), with(of(1, 3), 8, 0), api.ErrArg)
	unopened(t, "Most, and a mark", broken(t, 4000, 0), none, api.ErrArg)
	unopened(t, "Most, and a text that is no table", laid(t, snap), none, api.ErrArg)
	unopened(t, "First, and no power", off(disks(t, 4000)), noFirst, api.ErrArg)
	unopened(t, "First, and a mark", broken(t, 4000, 0), noFirst, api.ErrArg)
	unopened(t, "ID, and no power", off(disks(t, 4000)), bad, api.ErrDown)
	unopened(t, "ID, and a mark", broken(t, 4000, 0), bad, api.ErrHalt)
	unopened(t, "ID, and no room", disks(t, 70), bad, api.ErrFull)
	unopened(t, "ID, and a text that is no table", laid(t, snap), bad, api.ErrArg)
	unopened(t, "no power, and a text that is no table", off(laid(t, snap)), of(1, 3), api.ErrDown)
	unopened(t, "a text that is no table", laid(t, snap), of(1, 3), api.ErrHalt)
}

// TestSV1Snap: a text that is no table, one that is, and none; what is done is the log's Base, and First counts on an empty disk alone.
func TestSV1Snap(t *testing.T) {
	for _, text := range noTables(t) {
		s := kept(t)
		s.Snap = []byte(text)
		d := laid(t, s)
		untouched(t, "no table", d, func() { unopened(t, fmt.Sprintf("the text %q", short(text)), d, of(1, 3), api.ErrHalt) })
		s.Log, s.Term = entry.Log{}, 0
		unopened(t, "of no log", laid(t, s), of(1, 3), api.ErrHalt)
	}
	s := kept(t)
	d := laid(t, s)
	var x *server.Server
	untouched(t, "a table", d, func() { x = opens(t, d, of(1, 3)) })
	if string(x.Table()) != string(s.Snap) || x.Applied() != 4 || x.Term() != 3 || x.Waits() != 0 || x.Dead() != nil || x.View() != (raft.View{Commit: 4}) || !slices.Equal(x.Conf(), conf.Conf{1, 2}) {
		t.Errorf("opened: %s", shown(x))
	}
	if got := x.Read(session.Command{Order: query("r")}); got.Answer.Total != 5+5i {
		t.Errorf("Read: %v", got)
	}
	if e, err := x.Entry(5); err != nil || shownEntry(e) != shownEntry(s.Log.L[0]) {
		t.Errorf("Entry: %s, %v", shownEntry(e), err)
	}
	if _, err := x.Entry(4); err != api.ErrOld {
		t.Errorf("Entry of what was let go: %v", err)
	}
	s.Snap = nil
	x = opens(t, laid(t, s), of(1, 3))
	if string(x.Table()) != string(table(t).Encode()) || x.Applied() != 4 || x.View().Commit != 4 {
		t.Errorf("opened without a text: %s", shown(x))
	}
	x = opens(t, disks(t, 4000), of(7, 5))
	if string(x.Table()) != string(table(t).Encode()) || x.Applied() != 0 || x.Term() != 0 || x.View() != (raft.View{}) || !slices.Equal(x.Conf(), conf.Conf{1, 2, 3, 4, 5}) {
		t.Errorf("opened on an empty disk: %s", shown(x))
	}
}

// TestSV1Draw: the draw of Open is that of its wait: the span, and up to as many beside.
func TestSV1Draw(t *testing.T) {
	for draw, want := range map[int]int{0: 4, 1: 5, 4: 8, 5: 4, 7: 6, -1: 4 + int(uint(math.MaxUint)%5), math.MinInt: 4 + int(uint(1<<63)%5)} {
		s, err := server.Open(disks(t, 4000), of(1, 3), draw)
		if err != nil {
			t.Fatalf("Open: %v", err)
		}
		n := 0
		for s.View().Role == raft.Follower && n < 20 {
			ticks(t, s, 1)
			n++
		}
		if n != want {
			t.Errorf("the draw %d: it stands behind %d ticks, not %d", draw, n, want)
		}
	}
}

// TestSV1Again: what a member kept is there behind an Open, and it goes on with it: it votes once in a term, and does again what is committed.
func TestSV1Again(t *testing.T) {
	d := disks(t, 1<<16)
	s := opens(t, d, of(1, 3))
	hears(t, s, msg.Msg{Kind: msg.Vote, From: 2, To: 1, Term: 5})
	s = opens(t, d, of(1, 3))
	no := msg.Msg{Kind: msg.Voted, From: 1, To: 3, Term: 5}
	sends(t, "a Vote of another one", hears(t, s, msg.Msg{Kind: msg.Vote, From: 3, To: 1, Term: 5}), no)
	yes := msg.Msg{Kind: msg.Voted, From: 1, To: 2, Term: 5, OK: true}
	sends(t, "a Vote of the same", hears(t, s, msg.Msg{Kind: msg.Vote, From: 2, To: 1, Term: 5}), yes)
	stands(t, s)
	asked(t, s, asks(1, 1, opening()))
	asked(t, s, asks(1, 2, asking(2, 1, add("r"))))
	tells(t, "all that was asked", settles(t, s), answer(1, 1, 1, session.Reply{Session: 2}), answer(1, 2, 1, session.Reply{Session: 2, Answer: order5()}))
	whole := string(s.Table())
	s = opens(t, d, of(1, 3))
	if s.Applied() != 0 || s.Term() != 6 || string(s.Table()) != string(table(t).Encode()) {
		t.Errorf("opened again: %s", shown(s))
	}
	m := msg.Msg{Kind: msg.Append, From: 2, To: 1, Term: 9, Index: 3, LogTerm: 6, Commit: 3}
	hears(t, s, m)
	if string(s.Table()) != whole || s.Applied() != 3 {
		t.Errorf("done again: %s, not %q", shown(s), whole)
	}
}

// TestSV1First: the keeper's first save is that of First, and no more is done by Open.
func TestSV1First(t *testing.T) {
	d := disks(t, 4000)
	opens(t, d, of(2, 3))
	k, err := stable.Open(d.Clone(), conf.Conf{9})
	if err != nil || k.Saves() != 1 || shownStored(k.Load()) != shownStored(raft.Stored{Conf: conf.Conf{1, 2, 3}}) {
		t.Errorf("%v: %d, %s", err, k.Saves(), shownStored(k.Load()))
	}
	untouched(t, "again", d, func() { opens(t, d, of(2, 2)) })
}

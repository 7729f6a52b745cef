package stable_test

import (
	"fmt"
	"slices"
	"strings"
	"testing"

	"tollbar/api"
	"tollbar/conf"
	"tollbar/disk"
	"tollbar/raft"
	"tollbar/stable"
	"tollbar/tape"
)

// appended is a disk as a record laid on one of its tapes makes it, behind a Reset or not.
func appended(t *testing.T, d *disk.Disk, on int, reset bool, record string) *disk.Disk {
	t.Helper()
	own := d.Clone()
	x, _, err := tape.Open(own, areas(own)[on])
	if err == nil && reset {
		err = x.Reset()
	}
	if err == nil {
		err = x.Append([]byte(record))
	}
	if err != nil {
		t.Fatalf("on the tape %d: %v", on, err)
	}
	return own
}

// savesOn saves, and looks at that the disk is as a tape's calls make it, and at how many steps it took.
func savesOn(t *testing.T, what string, d *disk.Disk, k *stable.Keeper, s raft.Stored, on int, reset bool) {
	t.Helper()
	want := appended(t, d, on, reset, plain(k.Saves()+1, s))
	steps := 4
	if reset {
		steps = 6
	}
	arms(t, d, steps)
	saves(t, what, k, s)
	if onDisk(t, d) != onDisk(t, want) || d.Waits() != 0 {
		t.Fatalf("%s: not as the tape's calls make the disk, or %d wait", what, d.Waits())
	}
	if err := d.Sync(); err != api.ErrDown {
		t.Fatalf("%s: fewer steps than %d", what, steps)
	}
	d.Start(nil)
	keeps(t, what+", again", opens(t, what, d), k.Saves(), s)
}

// voted is something to save that differs from others by its number; all such below 10 have as many bytes.
func voted(n int) raft.Stored {
	return raft.Stored{Term: 10 + n, Conf: conf.Conf{1, 2}}
}

// TestST2SaveArg: what may not be is not saved, and nothing is done.
func TestST2SaveArg(t *testing.T) {
	d := disks(t, 1<<20)
	k := opens(t, "empty", d)
	saves(t, "rich", k, rich())
	for name, s := range mayNot() {
		still(t, name, d, func() {
			if err := k.Save(s); err != api.ErrArg {
				t.Errorf("Save, %s: %v", name, err)
			}
		})
		keeps(t, name, k, 2, rich())
	}
	saves(t, "another one", k, begun(5))
	keeps(t, "again", opens(t, "again", d), 3, begun(5))
}

// TestST2SaveMay: all that may be.
func TestST2SaveMay(t *testing.T) {
	for name, s := range mayBe() {
		if name == "much text" || name == "many entries" {
			continue
		}
		d := disks(t, 20000)
		k := opens(t, "empty", d)
		savesOn(t, name, d, k, s, 0, false)
	}
	d := disks(t, 1<<20)
	savesOn(t, "many entries", d, opens(t, "empty", d), mayBe()["many entries"], 0, false)
}

// TestST2SaveSame: what is kept is not written again, and the number stays; nil is the empty list. Each part that differs is another one.
func TestST2SaveSame(t *testing.T) {
	d := disks(t, 4000)
	k := opens(t, "empty", d)
	same := func(what string, n int, l ...raft.Stored) {
		t.Helper()
		for i, s := range l {
			still(t, what, d, func() {
				if err := k.Save(s); err != nil {
					t.Errorf("Save, %s, %d: %v", what, i, err)
				}
			})
			keeps(t, what, k, n, l[0])
		}
	}
	same("begun", 1, begun(1, 2), raft.Stored{Conf: conf.Conf{1, 2}, Snap: []byte{}, Log: logOf(0, 0, many(0, 0)...)})
	saves(t, "rich", k, rich())
	same("rich", 2, rich(), with(rich(), func(s *raft.Stored) { s.Log.L[2].Data = nil }))
	k = opens(t, "again", d)
	same("rich, again", 2, rich(), k.Load())
	for i, change := range changes() {
		other := with(rich(), change)
		saves(t, fmt.Sprint("change ", i), k, other)
		saves(t, fmt.Sprint("change back ", i), k, rich())
		still(t, "as it was", d, func() { k.Save(rich()) })
		keeps(t, "again", opens(t, "again", d), 4+2*i, rich())
	}
}

// changes are such of what is kept, of one part alone each.
func changes() []func(s *raft.Stored) {
	return []func(s *raft.Stored){
		func(s *raft.Stored) { s.Term++ },
		func(s *raft.Stored) { s.Vote++ },
		func(s *raft.Stored) { s.Vote = 0 },
		func(s *raft.Stored) { s.Log.Term-- },
		func(s *raft.Stored) { s.Log = logOf(6, 2, s.Log.L[1:]...) },
		func(s *raft.Stored) { s.Log.L = s.Log.L[:2] },
		func(s *raft.Stored) { s.Log.L = append(s.Log.L, of(9, 7, 0, "")) },
		func(s *raft.Stored) { s.Log.L[1].Term = 3 },
		func(s *raft.Stored) { s.Log.L[2].Kind = 1 },
		func(s *raft.Stored) { s.Log.L[0].Data = []byte("aB") },
		func(s *raft.Stored) { s.Log.L[0].Data = []byte("a") },
		func(s *raft.Stored) { s.Log.L[2].Data = []byte{0} },
		func(s *raft.Stored) { s.Log = logOf(0, 0) },
		func(s *raft.Stored) { s.Log.Base, s.Log.L = 8, nil },
		func(s *raft.Stored) { s.Conf = conf.Conf{1, 2} },
		func(s *raft.Stored) { s.Conf = conf.Conf{1, 2, 31} },
		func(s *raft.Stored) { s.Snap = nil },
		func(s *raft.Stored) { s.Snap = []byte("A text\x00") },
		func(s *raft.Stored) { s.Snap = []byte("a text") },
	}
}

// TestST2SaveIndexes: entries that differ by their indexes alone, as the log's Base does.
func TestST2SaveIndexes(t *testing.T) {
	d := disks(t, 4000)
	k := opens(t, "empty", d)
	for i, base := range []int{3, 4, 3, 5} {
		s := raft.Stored{Term: 1, Conf: conf.Conf{1}, Log: logOf(base, 1, of(base+1, 1, 1, "x"))}
		saves(t, "moved", k, s)
		keeps(t, "again", opens(t, "again", d), i+2, s)
	}
}

// TestST2SaveOver: the tape that counts goes on till it has no room; then the other one is let go, and goes on; and so on.
func TestST2SaveOver(t *testing.T) {
	for _, size := range []int{4 * 39, 4*39 + 1, 6*39 + 2, 300, 401} {
		d := disks(t, size)
		k := opens(t, "empty", d)
		on, used := 0, 5+len(plain(1, begun(1, 2)))
		turns := 0
		for n := range 60 {
			s := voted(n % 9)
			record := plain(k.Saves()+1, s)
			reset := areas(d)[on].Len-used-5 < len(record)
			if reset {
				on, used = 1-on, 0
				turns++
			}
			used += 5 + len(record)
			savesOn(t, fmt.Sprint(size, " bytes, save ", n), d, k, s, on, reset)
		}
		if turns < 6 {
			t.Errorf("%d bytes: %d turns", size, turns)
		}
	}
}

// TestST2SaveRoom: just as much as the tape that counts has room for, and one byte more, which goes to the other one.
func TestST2SaveRoom(t *testing.T) {
	for _, half := range []int{100, 131} {
		left := half - 5 - len(plain(1, begun(1, 2)))
		for size := left - 7; size <= left-3; size++ {
			d := disks(t, 2*half)
			k := opens(t, "empty", d)
			on := 0
			if size > left-5 {
				on = 1
			}
			savesOn(t, fmt.Sprint(size, " bytes of ", left), d, k, sized(t, 2, size), on, on == 1)
			want := [2]int{2 - on, on}
			if got := records(t, d); len(got[0]) != want[0] || len(got[1]) != want[1] {
				t.Errorf("%d bytes of %d: %q", size, left, got)
			}
		}
	}
}

// TestST2SaveFull: just as much as the whole of the other tape has room for, and one byte more, where nothing is done; of an odd disk the second tape has one more than the first one.
func TestST2SaveFull(t *testing.T) {
	for _, size := range []int{200, 201} {
		for _, ahead := range [][2][]string{{{plain(1, voted(1))}, nil}, {{plain(1, voted(1))}, {plain(1, voted(2)), plain(1, voted(3))}}, {nil, {plain(1, voted(1))}}, {{plain(1, voted(3))}, {plain(2, voted(1))}}} {
			d := laid(t, size, ahead[0], ahead[1])
			k := opens(t, "laid", d)
			keeps(t, "laid", k, k.Saves(), voted(1))
			other := 1
			if ahead[0] == nil || k.Saves() == 2 {
				other = 0
			}
			most := areas(d)[other].Len - 5
			for _, over := range []int{1, 2, 3, 50, 10000} {
				for range 2 {
					still(t, "full", d, func() {
						if err := k.Save(sized(t, k.Saves()+1, most+over)); err != api.ErrFull {
							t.Errorf("%d bytes, %d over: %v", size, over, err)
						}
					})
					keeps(t, "full", k, k.Saves(), voted(1))
				}
			}
			savesOn(t, "just as much", d, k, sized(t, k.Saves()+1, most), other, true)
			savesOn(t, "a small one behind", d, k, voted(4), 1-other, true)
			savesOn(t, "and one more", d, k, voted(5), 1-other, false)
		}
	}
}

// TestST2SaveFirst: at first the first tape counts, also where its room is not enough for the first save.
func TestST2SaveFirst(t *testing.T) {
	size := 2*(5+len(plain(1, begun(1, 2)))) - 1
	d := disks(t, size)
	want := appended(t, d, 1, true, plain(1, begun(1, 2)))
	keeps(t, "first", opens(t, "first", d), 1, begun(1, 2))
	if onDisk(t, d) != onDisk(t, want) {
		t.Errorf("%q", onDisk(t, d))
	}
}

// TestST2SaveNumber: numbers of several digits, up to the last one, the room going by them.
func TestST2SaveNumber(t *testing.T) {
	for _, n := range []int{8, 9, 98, 99, 100, 1 << 32, api.MaxIndex - 2, api.MaxIndex - 1} {
		d := laid(t, 400, nil, []string{plain(n, rich())})
		k := opens(t, "laid", d)
		keeps(t, "laid", k, n, rich())
		savesOn(t, fmt.Sprint("behind ", n), d, k, begun(3), 1, false)
	}
	for _, n := range []int{8, 9} {
		ahead := plain(n, voted(1))
		size := 2 * (5 + len(ahead) + 5 + len(plain(9, voted(1))))
		d := laid(t, size, []string{ahead}, nil)
		on := n - 8 // the record of a number of two digits has not room
		savesOn(t, fmt.Sprint("behind ", n), d, opens(t, "laid", d), voted(2), on, on == 1)
	}
}

// dead looks at a keeper that has an error for good, whatever is asked: it takes no step.
func dead(t *testing.T, what string, d *disk.Disk, k *stable.Keeper, want error, n int, kept raft.Stored) {
	t.Helper()
	for range 2 {
		for i, s := range []raft.Stored{kept, {}, rich(), voted(1), begun(1), mayNot()["vote 65"], {Conf: conf.Conf{1}, Snap: make([]byte, 4*api.MaxBytes)}} {
			if err := k.Save(s); err == nil || err != want {
				t.Fatalf("%s, %d: %v, not %v", what, i, err, want)
			}
			keeps(t, what, k, n, kept)
		}
	}
}

// TestST2SaveDown: a Save in which the power goes, within each of its steps: the keeper answers that error from then on, the power being back too.
func TestST2SaveDown(t *testing.T) {
	for _, reset := range []bool{false, true} {
		steps, size := 4, 1000
		if reset {
			steps, size = 6, 100
		}
		for n := range steps {
			d := disks(t, size)
			k := opens(t, "empty", d)
			what := fmt.Sprint("reset ", reset, ", step ", n)
			arms(t, d, n)
			if err := k.Save(voted(7)); err != api.ErrDown {
				t.Fatalf("%s: %v", what, err)
			}
			dead(t, what, d, k, api.ErrDown, 1, begun(1, 2))
			d.Start([]int{1})
			still(t, what, d, func() { dead(t, what, d, k, api.ErrDown, 1, begun(1, 2)) })
			opens(t, what, d)
		}
	}
}

// TestST2SaveGone: the power being gone ahead of it: what is kept, what may not be and what has not room take no step; anything else does.
func TestST2SaveGone(t *testing.T) {
	d := disks(t, 200)
	k := opens(t, "empty", d)
	arms(t, d, 0)
	d.Sync()
	for _, x := range []struct {
		s    raft.Stored
		want error
	}{{begun(1, 2), nil}, {raft.Stored{}, api.ErrArg}, {sized(t, 2, 900), api.ErrFull}, {begun(1, 2), nil}} {
		if err := k.Save(x.s); (err == nil) != (x.want == nil) || err != nil && err != x.want {
			t.Errorf("%s: %v, not %v", short(shown(x.s)), err, x.want)
		}
		keeps(t, "gone", k, 1, begun(1, 2))
	}
	if err := k.Save(voted(1)); err != api.ErrDown {
		t.Errorf("Save: %v", err)
	}
	dead(t, "gone", d, k, api.ErrDown, 1, begun(1, 2))
	d.Start(nil)
	keeps(t, "again", opens(t, "again", d), 1, begun(1, 2))
}

// TestST2SaveLong: a record of more than MaxBytes where there is room for it: it is the tapes' error, and the keeper is dead of it.
func TestST2SaveLong(t *testing.T) {
	for _, half := range []int{2 * api.MaxBytes, api.MaxBytes + 20} {
		d := disks(t, 2*half)
		k := opens(t, "empty", d)
		much := sized(t, 2, api.MaxBytes)
		saves(t, "just as much as may be", k, much)
		keeps(t, "again", opens(t, "again", d), 2, much)
		if err := k.Save(sized(t, 3, api.MaxBytes+1)); err != api.ErrLong {
			t.Fatalf("a byte more: %v", err)
		}
		still(t, "dead", d, func() { dead(t, "dead", d, k, api.ErrLong, 2, much) })
		keeps(t, "again", opens(t, "again", d), 2, much)
		got := records(t, d)
		if n := len(got[0]) + len(got[1]); !slices.Contains(slices.Concat(got[0], got[1]), plain(2, much)) || n > 2 {
			t.Errorf("%d records", n)
		}
	}
	d := disks(t, 2*api.MaxBytes+8)
	k := opens(t, "empty", d)
	still(t, "full", d, func() {
		if err := k.Save(sized(t, 2, api.MaxBytes+1)); err != api.ErrFull {
			t.Errorf("more than the room, and than MaxBytes: %v", err)
		}
	})
	saves(t, "not dead", k, voted(1))
}

// TestST2SaveOwn: the keepers of two disks do not know of one another.
func TestST2SaveOwn(t *testing.T) {
	one, two := disks(t, 300), disks(t, 300)
	a, b := opens(t, "one", one), opens(t, "two", two)
	for n := range 9 {
		saves(t, "one", a, voted(n))
		keeps(t, "two", b, 1+n/3, lastOf(n))
		if n%3 == 2 {
			saves(t, "two", b, raft.Stored{Term: n, Conf: conf.Conf{9}, Snap: []byte(strings.Repeat("x", n))})
		}
		keeps(t, "one", a, 2+n, voted(n))
	}
}

// lastOf is what the second one of two keepers has ahead of a turn.
func lastOf(n int) raft.Stored {
	n = n/3*3 - 1
	if n < 0 {
		return begun(1, 2)
	}
	return raft.Stored{Term: n, Conf: conf.Conf{9}, Snap: []byte(strings.Repeat("x", n))}
}

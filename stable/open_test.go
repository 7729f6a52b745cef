package stable_test

import (
	"fmt"
	"slices"
	"strings"
	"testing"

	"tollbar/api"
	"tollbar/conf"
	"tollbar/disk"
	"tollbar/raft"
	"tollbar/stable"
	"tollbar/tape"
)

// unopened looks at an Open that must fail, without a step.
func unopened(t *testing.T, what string, d *disk.Disk, first conf.Conf, want api.Errno) {
	t.Helper()
	if k, err := stable.Open(d, first); err != want || k != nil {
		t.Errorf("Open, %s: %v, %v, not %v", what, k, err, want)
	}
}

// TestST1OpenArg: no disk, members that may not be, and areas that are none.
func TestST1OpenArg(t *testing.T) {
	unopened(t, "no disk", nil, conf.Conf{1}, api.ErrArg)
	unopened(t, "no disk, no members", nil, nil, api.ErrArg)
	unopened(t, "no bytes", &disk.Disk{}, conf.Conf{1}, api.ErrArg)
	for name, c := range noMembers() {
		for _, d := range []*disk.Disk{disks(t, 400), laid(t, 400, []string{plain(3, rich())}, nil)} {
			still(t, name, d, func() { unopened(t, name, d, c, api.ErrArg) })
		}
	}
	for size := 1; size < 10; size++ {
		d := disks(t, size)
		still(t, "too small", d, func() { unopened(t, fmt.Sprint(size, " bytes"), d, conf.Conf{1}, api.ErrArg) })
	}
}

// TestST1OpenErrors: which error is told first.
func TestST1OpenErrors(t *testing.T) {
	down := func(d *disk.Disk) *disk.Disk {
		arms(t, d, 0)
		d.Sync()
		return d
	}
	unopened(t, "no power", down(disks(t, 400)), conf.Conf{1}, api.ErrDown)
	unopened(t, "no power, and as small as may be", down(disks(t, 10)), conf.Conf{1}, api.ErrDown)
	unopened(t, "no power, no members", down(disks(t, 400)), conf.Conf{}, api.ErrArg)
	unopened(t, "no power, too small", down(disks(t, 9)), conf.Conf{1}, api.ErrArg)
	unopened(t, "no power, a record that tells nothing", down(laid(t, 400, []string{"?"}, nil)), conf.Conf{1}, api.ErrDown)
	unopened(t, "no members, a record that tells nothing", laid(t, 400, []string{"?"}, nil), nil, api.ErrArg)
}

// TestST1OpenSizes: the first save's record of 30 bytes needs 35 of a tape: on a disk of less there is not room, of an odd number of bytes the second tape has one more.
func TestST1OpenSizes(t *testing.T) {
	for size := 10; size < 69; size++ {
		d := disks(t, size)
		still(t, "no room", d, func() { unopened(t, fmt.Sprint(size, " bytes"), d, conf.Conf{1}, api.ErrFull) })
	}
	first := plain(1, begun(1))
	if len(first) != 30 {
		t.Fatalf("the first record has %d bytes", len(first))
	}
	for size := 69; size < 150; size++ {
		d := disks(t, size)
		k, err := stable.Open(d, conf.Conf{1})
		if err != nil {
			t.Fatalf("%d bytes: %v", size, err)
		}
		keeps(t, fmt.Sprint(size, " bytes"), k, 1, begun(1))
		want := [2][]string{{first}, nil}
		if size == 69 {
			want = [2][]string{nil, {first}}
		}
		if got := records(t, d); fmt.Sprintf("%q", got) != fmt.Sprintf("%q", want) {
			t.Errorf("%d bytes: %q", size, got)
		}
	}
}

// TestST1OpenEmpty: what is saved at first, of all that members may be.
func TestST1OpenEmpty(t *testing.T) {
	for _, c := range []conf.Conf{{1}, {64}, {1, 2, 3}, {2, 3}, {7, 8, 9, 61, 62, 63, 64}} {
		d := disks(t, 300)
		k, err := stable.Open(d, c)
		if err != nil {
			t.Fatalf("%v: %v", c, err)
		}
		keeps(t, fmt.Sprint(c), k, 1, raft.Stored{Conf: c})
		if got := records(t, d); fmt.Sprintf("%q", got) != fmt.Sprintf("%q", [2][]string{{plain(1, raft.Stored{Conf: c})}, nil}) || d.Waits() != 0 {
			t.Errorf("%v: %q, %d wait", c, got, d.Waits())
		}
		still(t, "again", d, func() {
			k, err := stable.Open(d, conf.Conf{33})
			if err != nil {
				t.Fatalf("%v, again: %v", c, err)
			}
			keeps(t, "again, for others", k, 1, raft.Stored{Conf: c})
		})
	}
}

// TestST1OpenRoom: the first save has not room in halves that have room for fewer members.
func TestST1OpenRoom(t *testing.T) {
	d := disks(t, 70)
	still(t, "no room", d, func() { unopened(t, "three members", d, conf.Conf{1, 2, 3}, api.ErrFull) })
	opens(t, "of a greater disk", disks(t, 80))
}

// TestST1OpenDown: the power going within each step of the first save.
func TestST1OpenDown(t *testing.T) {
	for size, steps := range map[int]int{69: 6, 70: 4} {
		for n := range steps {
			d := disks(t, size)
			arms(t, d, n)
			if k, err := stable.Open(d, conf.Conf{1}); err != api.ErrDown || k != nil {
				t.Errorf("%d bytes, step %d: %v, %v", size, n, k, err)
			}
		}
		d := disks(t, size)
		arms(t, d, steps)
		if _, err := stable.Open(d, conf.Conf{1}); err != nil {
			t.Errorf("%d bytes, %d steps: %v", size, steps, err)
		}
	}
}

// counted are tapes, and what counts of them.
type counted struct {
	name          string
	first, second []string
	n             int
	s             raft.Stored
	on            int
}

// tapes are some.
func tapes() []counted {
	a, b := rich(), begun(7, 8)
	c := with(rich(), func(s *raft.Stored) { s.Vote = 9 })
	one := func(n int, s raft.Stored) []string { return []string{plain(n, s)} }
	return []counted{
		{"one on the first", one(1, a), nil, 1, a, 0},
		{"one on the second", nil, one(1, a), 1, a, 1},
		{"a late one on the second", nil, one(api.MaxIndex, a), api.MaxIndex, a, 1},
		{"several on the first", []string{plain(4, a), plain(5, b), plain(6, c)}, nil, 6, c, 0},
		{"several on the second", nil, []string{plain(4, a), plain(5, b), plain(6, c)}, 6, c, 1},
		{"the first the greater one", []string{plain(7, a), plain(8, b)}, []string{plain(5, c), plain(6, a)}, 8, b, 0},
		{"the second the greater one", []string{plain(5, c), plain(6, a)}, []string{plain(7, a), plain(8, b)}, 8, b, 1},
		{"the first far greater", one(api.MaxIndex, b), one(1, a), api.MaxIndex, b, 0},
		{"the second far greater", one(1, a), one(api.MaxIndex, b), api.MaxIndex, b, 1},
		{"the second greater, not as a text", one(9, a), one(10, b), 10, b, 1},
		{"the same number", one(6, a), one(6, b), 6, a, 0},
		{"the same number, of many", []string{plain(1, c), plain(6, b)}, []string{plain(9, c), plain(6, a)}, 6, b, 0},
		{"the last, not the greatest", []string{plain(9, a), plain(2, b)}, one(3, c), 3, c, 1},
		{"a last that is smaller", []string{plain(9, a), plain(2, b)}, nil, 2, b, 0},
		{"others ahead that tell nothing", []string{"?", "", plain(3, a)}, []string{plain(0, b), plain(2, b)}, 3, a, 0},
	}
}

// TestST1OpenTapes: what counts, of tapes of none, of one and of several; the next save goes on there.
func TestST1OpenTapes(t *testing.T) {
	for _, x := range tapes() {
		d := laid(t, 2000, x.first, x.second)
		still(t, x.name, d, func() {
			k, err := stable.Open(d, conf.Conf{50})
			if err != nil {
				t.Fatalf("%s: %v", x.name, err)
			}
			keeps(t, x.name, k, x.n, x.s)
		})
		if x.n == api.MaxIndex {
			continue
		}
		k := opens(t, x.name, d)
		next := raft.Stored{Term: 30, Vote: 1, Conf: conf.Conf{4}}
		saves(t, x.name, k, next)
		want := [2][]string{slices.Clone(x.first), slices.Clone(x.second)}
		want[x.on] = append(want[x.on], plain(x.n+1, next))
		if got := records(t, d); fmt.Sprintf("%q", got) != fmt.Sprintf("%q", want) {
			t.Errorf("%s, and one more: %q, not %q", x.name, got, want)
		}
		keeps(t, x.name+", again", opens(t, x.name, d), x.n+1, next)
	}
}

// TestST1OpenHalt: a last record that tells nothing, on the one tape, on the other one, and on both, even where the other one has a greater number.
func TestST1OpenHalt(t *testing.T) {
	good := plain(3, rich())
	bad := []string{"", "?", plain(0, rich()), plain(api.MaxIndex+1, rich()), good[:len(good)-1], good + "n", plain(1, raft.Stored{}), strings.Replace(good, "n2;n1;n2;", "n2;n2;n1;", 1)}
	for _, s := range mayNot() {
		if b := plain(4, s); len(b) < 1000 {
			bad = append(bad, b)
		}
	}
	for _, b := range bad {
		for i, x := range [][2][]string{{{b}, nil}, {nil, {b}}, {{b}, {b}}, {{b}, {good}}, {{good}, {b}}, {{good, b}, {plain(9, rich())}}, {{plain(9, rich())}, {good, b}}, {{good, b}, {good, b}}} {
			d := laid(t, 4000, x[0], x[1])
			still(t, "halt", d, func() { unopened(t, fmt.Sprintf("%q, %d", b, i), d, conf.Conf{1}, api.ErrHalt) })
		}
	}
}

// TestST1OpenTape: a tape that tape.Open doesn't take, the one or the other.
func TestST1OpenTape(t *testing.T) {
	good := plain(3, rich())
	for _, mark := range []byte{2, 3, 128, 255} {
		for i := range 2 {
			d := laid(t, 400, []string{good}, []string{good})
			if err := d.Write(areas(d)[i].At, []byte{mark}); err != nil {
				t.Fatalf("Write: %v", err)
			}
			if err := d.Sync(); err != nil {
				t.Fatalf("Sync: %v", err)
			}
			unopened(t, fmt.Sprintf("mark %d on %d", mark, i), d, conf.Conf{1}, api.ErrHalt)
			if err := d.Write(areas(d)[i].At, []byte{1, 1}); err != nil {
				t.Fatalf("Write: %v", err)
			}
			unopened(t, fmt.Sprintf("a length on %d", i), d, conf.Conf{1}, api.ErrHalt)
		}
	}
}

// TestST1OpenHalves: the first half is rounded down, and the rest is the second tape's, up to the last byte.
func TestST1OpenHalves(t *testing.T) {
	for _, size := range []int{200, 201, 301, 400, 401} {
		half := size / 2
		for i, a := range []tape.Area{{At: 0, Len: half}, {At: half, Len: size - half}} {
			d := disks(t, size)
			x, _, err := tape.Open(d, a)
			if err != nil {
				t.Fatalf("tape %d of %d: %v", i, size, err)
			}
			s := sized(t, 2, a.Len-5)
			if err := x.Append([]byte(plain(2, s))); err != nil {
				t.Fatalf("Append: %v", err)
			}
			keeps(t, fmt.Sprintf("tape %d of %d", i, size), opens(t, "all of it", d), 2, s)
		}
	}
}

package disk_test

import (
	"math"
	"slices"
	"strconv"
	"testing"

	"tollbar/api"
	"tollbar/disk"
)

// three is a disk of "abcdef", all safe, with writes of 4, 0 and 2 bytes that are not.
func three(t *testing.T) *disk.Disk {
	t.Helper()
	d := made(t, 6)
	writes(t, d, 0, "abcdef")
	syncs(t, d)
	writes(t, d, 1, "1234")
	writes(t, d, 6, "")
	writes(t, d, 4, "XY")
	return d
}

// kept is what three is started with, by how many writes are kept and how many bytes of the next one.
func kept(whole, part int) string {
	return [][]string{
		{"abcdef", "a1cdef", "a12def", "a123ef", "a1234f"},
		{"a1234f"},
		{"a1234f", "a123Xf", "a123XY"},
		{"a123XY"},
	}[whole][part]
}

// TestDI3Example: the document's example.
func TestDI3Example(t *testing.T) {
	for _, c := range []struct {
		keep []int
		want string
	}{{nil, "........."}, {[]int{}, "........."}, {[]int{0, 1}, "...a....."}} {
		d := made(t, 9)
		writes(t, d, 3, "ab")
		arms(t, d, 0)
		if err := d.Sync(); err != api.ErrDown {
			t.Fatalf("Sync: %v", err)
		}
		d.Start(c.keep)
		holds(t, "the example", d, c.want, 0)
	}
}

// starts starts three, with the power on and with it gone.
func starts(t *testing.T, keep []int, want string) {
	t.Helper()
	on := three(t)
	gone := on.Clone()
	arms(t, gone, 0)
	if err := gone.Sync(); err != api.ErrDown {
		t.Fatalf("Sync: %v", err)
	}
	for _, d := range []*disk.Disk{on, gone} {
		before := slices.Clone(keep)
		d.Start(keep)
		if !slices.Equal(keep, before) {
			t.Fatalf("Start changed %v to %v", before, keep)
		}
		name := "Start of"
		for _, n := range keep {
			name += " " + strconv.Itoa(n)
		}
		holds(t, name, d, want, 0)
	}
}

// TestDI3Keep: each number of writes and of bytes, by hand.
func TestDI3Keep(t *testing.T) {
	cases := []struct {
		keep []int
		want string
	}{
		{nil, "abcdef"},
		{[]int{0}, "abcdef"},
		{[]int{0, 0}, "abcdef"},
		{[]int{0, 1}, "a1cdef"},
		{[]int{0, 3}, "a123ef"},
		{[]int{0, 4}, "a1234f"},
		{[]int{0, 5}, "abcdef"},
		{[]int{0, 9}, "a1234f"},
		{[]int{0, -1}, "a1234f"},
		{[]int{0, -4}, "a1cdef"},
		{[]int{0, -5}, "abcdef"},
		{[]int{1}, "a1234f"},
		{[]int{1, 1}, "a1234f"},
		{[]int{1, -7}, "a1234f"},
		{[]int{2}, "a1234f"},
		{[]int{2, 1}, "a123Xf"},
		{[]int{2, 2}, "a123XY"},
		{[]int{2, 3}, "a1234f"},
		{[]int{2, -1}, "a123XY"},
		{[]int{2, -2}, "a123Xf"},
		{[]int{3}, "a123XY"},
		{[]int{3, 1}, "a123XY"},
		{[]int{4, 2}, "a12def"},
		{[]int{7}, "a123XY"},
		{[]int{-1}, "a123XY"},
		{[]int{-2, 1}, "a123Xf"},
		{[]int{-3, 1}, "a1234f"},
		{[]int{-4, 1}, "a1cdef"},
		{[]int{-8}, "abcdef"},
		{[]int{0, 1, 4}, "a1cdef"},
		{[]int{2, 1, 3, -3, math.MaxInt}, "a123Xf"},
		{[]int{math.MaxInt}, "a123XY"},              // 2^63 - 1 is 3 by 4
		{[]int{math.MinInt}, "abcdef"},              // - 2^63 is 0 by 4
		{[]int{math.MaxInt - 1, 1}, "a123Xf"},       // 2 by 4
		{[]int{0, math.MaxInt}, "a12def"},           // 2^63 - 1 is 2 by 5
		{[]int{0, math.MinInt}, "a12def"},           // - 2^63 is 2 by 5
		{[]int{2, math.MaxInt}, "a123Xf"},           // 2^63 - 1 is 1 by 3
		{[]int{2, math.MinInt}, "a123Xf"},           // - 2^63 is 1 by 3
		{[]int{math.MinInt + 1, 4, 7}, "a1234f"},    // 1 by 4
		{[]int{math.MinInt, math.MinInt}, "a12def"}, // 0 by 4, 2 by 5
	}
	for _, c := range cases {
		starts(t, c.keep, c.want)
	}
}

// counted is a remainder found by going on from 0, or back, one by one.
func counted(n, by int) int {
	r := 0
	for ; n > 0; n-- {
		r = (r + 1) % by
	}
	for ; n < 0; n++ {
		r = (r + by - 1) % by
	}
	return r
}

// TestDI3EachKeep: all numbers about 0, alone, two, and with more behind.
func TestDI3EachKeep(t *testing.T) {
	lengths := []int{4, 0, 2}
	for first := -13; first < 14; first++ {
		whole := counted(first, len(lengths)+1)
		starts(t, []int{first}, kept(whole, 0))
		for second := -13; second < 14; second++ {
			part := 0
			if whole < len(lengths) {
				part = counted(second, lengths[whole]+1)
			}
			starts(t, []int{first, second}, kept(whole, part))
			starts(t, []int{first, second, 1, -1}, kept(whole, part))
		}
	}
}

// TestDI3NothingWaits: where nothing waits, nothing is lost, whatever is to be kept.
func TestDI3NothingWaits(t *testing.T) {
	for _, keep := range [][]int{nil, {0}, {1}, {-1}, {0, 1}, {3, -3}, {math.MinInt, math.MaxInt}} {
		d := made(t, 4)
		d.Start(keep)
		holds(t, "a new one", d, "....", 0)
		writes(t, d, 1, "ab")
		syncs(t, d)
		d.Start(keep)
		holds(t, "all synced", d, ".ab.", 0)
	}
}

// TestDI3AllSafe: behind a Start all is safe: another one loses nothing, and what was lost does not come back.
func TestDI3AllSafe(t *testing.T) {
	for _, again := range [][]int{nil, {1}, {2, 1}, {3}, {-1, -1}} {
		d := three(t)
		d.Start([]int{2, 1})
		d.Start(again)
		holds(t, "started twice", d, "a123Xf", 0)
		syncs(t, d)
		holds(t, "and synced", d, "a123Xf", 0)
		writes(t, d, 0, "Z")
		d.Start(nil)
		holds(t, "a write lost behind", d, "a123Xf", 0)
		writes(t, d, 0, "Z")
		d.Start([]int{1})
		holds(t, "a write kept behind", d, "Z123Xf", 0)
	}
}

// TestDI3PowerOn: a Start with the power on loses as one behind a crash does, and the disk goes on.
func TestDI3PowerOn(t *testing.T) {
	d := made(t, 3)
	writes(t, d, 0, "abc")
	d.Start(nil)
	holds(t, "lost", d, "...", 0)
	writes(t, d, 0, "abc")
	d.Start([]int{0, 2})
	holds(t, "a begin kept", d, "ab.", 0)
	writes(t, d, 2, "x")
	syncs(t, d)
	d.Start(nil)
	holds(t, "synced", d, "abx", 0)
}

// TestDI3Clone: a clone is the same, and goes its own way: what is read, what is not safe, what is armed, the power.
func TestDI3Clone(t *testing.T) {
	d := three(t)
	c := d.Clone()
	if c == d || c.Size() != 6 {
		t.Fatalf("a clone of %d bytes", c.Size())
	}
	holds(t, "the clone", c, "a123XY", 3)
	writes(t, c, 0, "??????")
	holds(t, "the clone, written", c, "??????", 4)
	holds(t, "that one", d, "a123XY", 3)
	syncs(t, d)
	holds(t, "that one, synced", d, "a123XY", 0)
	writes(t, d, 0, "!!!!!!")
	c.Start([]int{0, 2})
	holds(t, "the clone, started", c, "a12def", 0)
	holds(t, "that one, written", d, "!!!!!!", 1)
	d.Start(nil)
	holds(t, "that one, started", d, "a123XY", 0)
	holds(t, "the clone at last", c, "a12def", 0)
}

// TestDI3CloneFirst: the other way round: that one goes on first, and the clone has what it had.
func TestDI3CloneFirst(t *testing.T) {
	d := three(t)
	written, synced, started := d.Clone(), d.Clone(), d.Clone()
	d.Start([]int{2, 1})
	writes(t, d, 0, "??????")
	syncs(t, d)
	holds(t, "the clone", written, "a123XY", 3)
	writes(t, written, 0, "Z")
	holds(t, "the clone, written", written, "Z123XY", 4)
	syncs(t, synced)
	synced.Start(nil)
	holds(t, "the clone, synced", synced, "a123XY", 0)
	started.Start(nil)
	holds(t, "the clone, started", started, "abcdef", 0)
	holds(t, "that one", d, "??????", 0)
}

// TestDI3CloneWaits: writes laid behind those that a disk and its clone both have are each one's own, whatever room there was.
func TestDI3CloneWaits(t *testing.T) {
	for n := range 10 {
		d := made(t, 1)
		for range n {
			writes(t, d, 0, "-")
		}
		c := d.Clone()
		writes(t, d, 0, "d")
		writes(t, c, 0, "c")
		d.Start([]int{n + 1})
		c.Start([]int{n + 1})
		holds(t, "that one", d, "d", 0)
		holds(t, "the clone", c, "c", 0)
	}
}

// TestDI3CloneRoom: room that a Sync left is not shared either.
func TestDI3CloneRoom(t *testing.T) {
	d := three(t)
	syncs(t, d)
	c := d.Clone()
	writes(t, d, 0, "dd")
	writes(t, c, 4, "cc")
	d.Start([]int{1})
	c.Start([]int{1})
	holds(t, "that one", d, "dd23XY", 0)
	holds(t, "the clone", c, "a123cc", 0)
}

// TestDI3CloneArmed: what is armed counts on in each for itself.
func TestDI3CloneArmed(t *testing.T) {
	d := three(t)
	arms(t, d, 3)
	syncs(t, d)
	c := d.Clone()
	syncs(t, c)
	syncs(t, c)
	if err := c.Write(0, []byte("c")); err != api.ErrDown {
		t.Errorf("the clone's step: %v", err)
	}
	dead(t, "the clone", c, 1)
	holds(t, "that one", d, "a123XY", 0)
	arms(t, c, 0)
	syncs(t, d)
	syncs(t, d)
	if err := d.Sync(); err != api.ErrDown {
		t.Errorf("that one's step: %v", err)
	}
	c.Start([]int{1})
	holds(t, "the clone, started", c, "c123XY", 0)
	dead(t, "that one", d, 0)
}

// TestDI3CloneDown: a clone of one whose power is gone has none either, and is started for itself.
func TestDI3CloneDown(t *testing.T) {
	d := three(t)
	arms(t, d, 0)
	if err := d.Sync(); err != api.ErrDown {
		t.Fatalf("Sync: %v", err)
	}
	c := d.Clone()
	dead(t, "the clone", c, 3)
	c.Start([]int{3})
	holds(t, "the clone, started", c, "a123XY", 0)
	dead(t, "that one", d, 3)
	d.Start([]int{1})
	holds(t, "that one, started", d, "a1234f", 0)
	holds(t, "the clone at last", c, "a123XY", 0)
}

// TestDI3Nil: a nil Disk: ErrArg, and nothing.
func TestDI3Nil(t *testing.T) {
	var d *disk.Disk
	d.Start(nil)
	d.Start([]int{1, 2})
	for _, at := range []int{-1, 0, 1} {
		if b, err := d.Read(at, 0); len(b) != 0 || err != api.ErrArg {
			t.Errorf("Read(%d, 0): %q, %v", at, b, err)
		}
		if err := d.Write(at, nil); err != api.ErrArg {
			t.Errorf("Write(%d): %v", at, err)
		}
		if err := d.Arm(at); err != api.ErrArg {
			t.Errorf("Arm(%d): %v", at, err)
		}
	}
	if b, err := d.Read(0, 1); len(b) != 0 || err != api.ErrArg {
		t.Errorf("Read(0, 1): %q, %v", b, err)
	}
	if err := d.Write(0, []byte("a")); err != api.ErrArg {
		t.Errorf("Write: %v", err)
	}
	if err := d.Sync(); err != api.ErrArg {
		t.Errorf("Sync: %v", err)
	}
	if d.Size() != 0 || d.Waits() != 0 || d.Down() {
		t.Errorf("size %d, %d wait, down %v", d.Size(), d.Waits(), d.Down())
	}
	if c := d.Clone(); c != nil {
		t.Errorf("Clone: %v", c)
	}
}

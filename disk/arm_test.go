package disk_test

import (
	"math"
	"strconv"
	"testing"

	"tollbar/api"
	"tollbar/disk"
)

// step is a Write (of a byte, at 0) or a Sync.
type step byte

// do does a step.
func (s step) do(d *disk.Disk) error {
	if s == 's' {
		return d.Sync()
	}
	return d.Write(0, []byte{byte(s)})
}

// others does what is no step.
func others(t *testing.T, d *disk.Disk) {
	t.Helper()
	if err := d.Write(-1, nil); err != api.ErrArg {
		t.Errorf("a Write at -1: %v", err)
	}
	if err := d.Write(d.Size(), []byte("a")); err != api.ErrArg {
		t.Errorf("a Write at the end: %v", err)
	}
	if _, err := d.Read(0, d.Size()); err != nil {
		t.Errorf("a Read: %v", err)
	}
	d.Read(-1, 0)
	d.Size()
	d.Waits()
	d.Down()
	if err := d.Clone().Write(0, nil); err != nil && err != api.ErrDown {
		t.Errorf("a Write of a clone: %v", err)
	}
}

// TestDI2When: of steps of either kind the power goes within the one that comes behind so many: neither earlier nor later.
func TestDI2When(t *testing.T) {
	for _, steps := range []string{"wwwwww", "ssssss", "wswsws", "swswsw", "wwsswws", "sswwssw"} {
		for n := range len(steps) {
			d := made(t, 4)
			arms(t, d, n)
			waits := 0
			for i := range n + 1 {
				others(t, d)
				if d.Down() || d.Waits() != waits {
					t.Fatalf("%s, %d ahead: ahead of the step %d down %v, %d wait", steps, n, i, d.Down(), d.Waits())
				}
				s := step(steps[i])
				err := s.do(d)
				if i < n && err != nil || i == n && err != api.ErrDown {
					t.Fatalf("%s, %d ahead: the step %d: %v", steps, n, i, err)
				}
				if s != 's' {
					waits++
				} else if i < n {
					waits = 0
				}
			}
			dead(t, steps+" "+strconv.Itoa(n), d, waits)
		}
	}
}

// TestDI2Write: the write within which the power goes is the last one of those that are not safe.
func TestDI2Write(t *testing.T) {
	for _, c := range []struct {
		keep []int
		want string
	}{
		{nil, "ab...."},
		{[]int{0, 1}, "aX...."},
		{[]int{0, 2}, "aXX..."},
		{[]int{1}, "aXX..."},
		{[]int{1, 1}, "aXY..."},
		{[]int{1, 2}, "aXYY.."},
		{[]int{1, 3}, "aXYYY."},
		{[]int{2}, "aXYYY."},
		{[]int{3}, "ab...."},
	} {
		d := made(t, 6)
		writes(t, d, 0, "ab")
		syncs(t, d)
		arms(t, d, 1)
		writes(t, d, 1, "XX")
		if err := d.Write(2, []byte("YYY")); err != api.ErrDown {
			t.Fatalf("the write within which the power goes: %v", err)
		}
		dead(t, "written", d, 2)
		d.Start(c.keep)
		holds(t, "started", d, c.want, 0)
	}
}

// TestDI2Sync: a Sync within which the power goes makes nothing safe.
func TestDI2Sync(t *testing.T) {
	for first, want := range []string{"......", "ab....", "aXX...", "......"} {
		d := made(t, 6)
		arms(t, d, 2)
		writes(t, d, 0, "ab")
		writes(t, d, 1, "XX")
		if err := d.Sync(); err != api.ErrDown {
			t.Fatalf("the sync within which the power goes: %v", err)
		}
		dead(t, "synced", d, 2)
		d.Start([]int{first})
		holds(t, "started", d, want, 0)
	}
}

// TestDI2Errors: below 0, which arms nothing, and leaves what is armed.
func TestDI2Errors(t *testing.T) {
	for _, n := range []int{-1, -2, math.MinInt} {
		d := made(t, 2)
		if err := d.Arm(n); err != api.ErrArg {
			t.Errorf("Arm of %d: %v", n, err)
		}
		for range 4 {
			syncs(t, d)
		}
		arms(t, d, 1)
		if err := d.Arm(n); err != api.ErrArg {
			t.Errorf("Arm of %d behind one of 1: %v", n, err)
		}
		syncs(t, d)
		if err := d.Sync(); err != api.ErrDown {
			t.Errorf("Arm of %d behind one of 1: the second sync: %v", n, err)
		}
		if err := d.Arm(n); err != api.ErrArg {
			t.Errorf("Arm of %d, the power gone: %v", n, err)
		}
	}
}

// TestDI2Far: the power goes at no step that comes ahead.
func TestDI2Far(t *testing.T) {
	for _, n := range []int{1000, math.MaxInt32, math.MaxInt} {
		d := made(t, 2)
		arms(t, d, n)
		for i := range 1000 {
			if err := step("ws"[i%2]).do(d); err != nil || d.Down() {
				t.Fatalf("Arm of %d: the step %d: %v, down %v", n, i, err, d.Down())
			}
		}
	}
}

// TestDI2Another: another Arm takes the place of one, be it earlier or later, and counts from itself on.
func TestDI2Another(t *testing.T) {
	for _, c := range []struct{ first, between, second int }{
		{0, 0, 3}, {1, 0, 0}, {5, 2, 0}, {5, 2, 4}, {2, 2, 2}, {3, 1, 1}, {math.MaxInt, 3, 0}, {1, 1, math.MaxInt},
	} {
		d := made(t, 2)
		arms(t, d, c.first)
		for range c.between {
			syncs(t, d)
		}
		arms(t, d, c.second)
		for range min(c.second, 20) {
			syncs(t, d)
		}
		if c.second > 20 {
			continue
		}
		if err := d.Sync(); err != api.ErrDown {
			t.Errorf("%d, %d steps behind %d: %v", c.first, c.between, c.second, err)
		}
	}
}

// TestDI2StartEnds: nothing is armed behind a Start: the power on, the power gone, and armed since it went.
func TestDI2StartEnds(t *testing.T) {
	for _, n := range []int{0, 1, 2, 7} {
		on, gone, since := made(t, 2), made(t, 2), made(t, 2)
		arms(t, on, n)
		for _, d := range []*disk.Disk{gone, since} {
			arms(t, d, 0)
			if err := d.Sync(); err != api.ErrDown {
				t.Fatalf("not armed: %v", err)
			}
		}
		arms(t, since, n)
		dead(t, "armed again", since, 0)
		for _, d := range []*disk.Disk{on, gone, since} {
			d.Start(nil)
			for i := range 20 {
				if err := step("ws"[i%2]).do(d); err != nil || d.Down() {
					t.Fatalf("Arm of %d: the step %d behind the start: %v, down %v", n, i, err, d.Down())
				}
			}
			arms(t, d, 1)
			syncs(t, d)
			if err := d.Sync(); err != api.ErrDown {
				t.Errorf("armed anew: %v", err)
			}
		}
	}
}

// TestDI2GoneStays: once gone, the power stays gone, whatever is asked, but for a Start.
func TestDI2GoneStays(t *testing.T) {
	d := made(t, 4)
	writes(t, d, 0, "ab")
	arms(t, d, 0)
	if err := d.Write(2, []byte("c")); err != api.ErrDown {
		t.Fatalf("Write: %v", err)
	}
	for range 3 {
		dead(t, "gone", d, 2)
	}
	for _, c := range []struct {
		at int
		b  string
	}{{-1, ""}, {5, ""}, {4, "a"}, {0, "abcde"}} {
		if err := d.Write(c.at, []byte(c.b)); err != api.ErrArg {
			t.Errorf("Write of %q at %d, the power gone: %v", c.b, c.at, err)
		}
	}
	if err := d.Write(4, nil); err != api.ErrDown {
		t.Errorf("Write of nothing, the power gone: %v", err)
	}
	if d.Size() != 4 || d.Waits() != 2 {
		t.Errorf("size %d, %d wait", d.Size(), d.Waits())
	}
	d.Start([]int{2})
	holds(t, "started", d, "abc.", 0)
}

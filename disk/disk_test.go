package disk_test

import (
	"bytes"
	"math"
	"strconv"
	"strings"
	"testing"

	"tollbar/api"
	"tollbar/disk"
)

// made is what New answers where it must.
func made(t *testing.T, size int) *disk.Disk {
	t.Helper()
	d, err := disk.New(size)
	if err != nil || d == nil {
		t.Fatalf("New of %d: %v, %v", size, d, err)
	}
	return d
}

// writes writes, and must.
func writes(t *testing.T, d *disk.Disk, at int, s string) {
	t.Helper()
	if err := d.Write(at, []byte(s)); err != nil {
		t.Fatalf("Write of %q at %d: %v", s, at, err)
	}
}

// syncs syncs, and must.
func syncs(t *testing.T, d *disk.Disk) {
	t.Helper()
	if err := d.Sync(); err != nil {
		t.Fatalf("Sync: %v", err)
	}
}

// arms arms, and must.
func arms(t *testing.T, d *disk.Disk, steps int) {
	t.Helper()
	if err := d.Arm(steps); err != nil {
		t.Fatalf("Arm of %d: %v", steps, err)
	}
}

// told are bytes with dots for noughts.
func told(b []byte) string { return strings.ReplaceAll(string(b), "\x00", ".") }

// holds looks at all bytes of a disk (dots for noughts), at its power, which must be on, and at how many writes wait.
func holds(t *testing.T, name string, d *disk.Disk, want string, waits int) {
	t.Helper()
	b, err := d.Read(0, d.Size())
	if told(b) != want || err != nil || d.Down() {
		t.Errorf("%s: %q, %v, down %v, not %q", name, told(b), err, d.Down(), want)
	}
	if n := d.Waits(); n != waits {
		t.Errorf("%s: %d wait, not %d", name, n, waits)
	}
}

// dead looks at a disk whose power is gone, and at how many writes wait. It leaves it as it was.
func dead(t *testing.T, name string, d *disk.Disk, waits int) {
	t.Helper()
	if !d.Down() {
		t.Errorf("%s: the power is on", name)
	}
	if b, err := d.Read(0, 1); err != api.ErrDown || len(b) != 0 {
		t.Errorf("%s: Read: %q, %v", name, b, err)
	}
	for range 2 {
		if err := d.Write(0, []byte("x")); err != api.ErrDown {
			t.Errorf("%s: Write: %v", name, err)
		}
		if err := d.Sync(); err != api.ErrDown {
			t.Errorf("%s: Sync: %v", name, err)
		}
	}
	if n := d.Waits(); n != waits {
		t.Errorf("%s: %d wait, not %d", name, n, waits)
	}
}

// TestDI1New: sizes from 1 to 4 MaxBytes; noughts, the power on, nothing waiting.
func TestDI1New(t *testing.T) {
	for _, size := range []int{math.MinInt, -4 * api.MaxBytes, -1, 0, 4*api.MaxBytes + 1, 8 * api.MaxBytes, math.MaxInt} {
		if d, err := disk.New(size); d != nil || err != api.ErrArg {
			t.Errorf("New of %d: %v, %v", size, d, err)
		}
	}
	for _, size := range []int{1, 2, 9, api.MaxBytes, 4*api.MaxBytes - 1, 4 * api.MaxBytes} {
		d := made(t, size)
		b, err := d.Read(0, size)
		if err != nil || !bytes.Equal(b, make([]byte, size)) {
			t.Errorf("New of %d: no noughts, or %v", size, err)
		}
		if d.Size() != size || d.Waits() != 0 || d.Down() {
			t.Errorf("New of %d: size %d, %d wait, down %v", size, d.Size(), d.Waits(), d.Down())
		}
	}
}

// TestDI1Largest: the largest disk written at once, read, synced, and lost.
func TestDI1Largest(t *testing.T) {
	const size = 4 * api.MaxBytes
	d := made(t, size)
	writes(t, d, 0, strings.Repeat("a", size))
	syncs(t, d)
	writes(t, d, 0, strings.Repeat("b", size))
	if b, err := d.Read(0, size); err != nil || !bytes.Equal(b, bytes.Repeat([]byte("b"), size)) {
		t.Errorf("written, not read: %v", err)
	}
	d.Start([]int{0, size - 1})
	if b, err := d.Read(size-3, 3); err != nil || string(b) != "bba" {
		t.Errorf("all but a byte kept: %q, %v", b, err)
	}
	if err := d.Write(1, make([]byte, size)); err != api.ErrArg {
		t.Errorf("Write of all at 1: %v", err)
	}
}

// within tells, byte by byte, whether these are bytes of a disk of a size.
func within(at, n, size int) bool {
	if at < 0 || at > size || n < 0 {
		return false
	}
	for range n {
		if at == size {
			return false
		}
		at++
	}
	return true
}

// edges are numbers about a disk of 9 bytes, and about the bounds of an int.
func edges() []int {
	l := []int{math.MinInt, math.MinInt + 1, math.MinInt + 9, -api.MaxIndex}
	for n := -10; n < 21; n++ {
		l = append(l, n)
	}
	return append(l, 1<<32, 1<<32+1, math.MaxInt-9, math.MaxInt-8, math.MaxInt-1, math.MaxInt)
}

// TestDI1ReadPlaces: every place and number: bytes of the disk, or ErrArg, the power on or gone.
func TestDI1ReadPlaces(t *testing.T) {
	const all = "012345678"
	d := made(t, 9)
	writes(t, d, 0, all)
	down := d.Clone()
	arms(t, down, 0)
	down.Sync()
	for _, at := range edges() {
		for _, n := range edges() {
			b, err := d.Read(at, n)
			lost, gone := down.Read(at, n)
			if len(lost) != 0 {
				t.Errorf("Read(%d, %d), the power gone: %q", at, n, lost)
			}
			if !within(at, n, 9) {
				if err != api.ErrArg || gone != api.ErrArg || len(b) != 0 {
					t.Errorf("Read(%d, %d): %q, %v; the power gone: %v", at, n, b, err, gone)
				}
			} else if err != nil || gone != api.ErrDown || string(b) != all[at:at+n] {
				t.Errorf("Read(%d, %d): %q, %v; the power gone: %v", at, n, b, err, gone)
			}
		}
	}
	holds(t, "read", d, all, 1)
}

// TestDI1WritePlaces: every place and number of bytes: written, or ErrArg and nothing changed, the power on or gone.
func TestDI1WritePlaces(t *testing.T) {
	const text = "abcdefghijklmnopqrst"
	for _, at := range edges() {
		for n := range text {
			name := "Write at " + strconv.Itoa(at) + " of " + strconv.Itoa(n)
			d := made(t, 9)
			down := d.Clone()
			arms(t, down, 0)
			down.Sync()
			err, gone := d.Write(at, []byte(text[:n])), down.Write(at, []byte(text[:n]))
			if !within(at, n, 9) {
				if err != api.ErrArg || gone != api.ErrArg {
					t.Errorf("%s: %v; the power gone: %v", name, err, gone)
				}
				holds(t, name, d, ".........", 0)
			} else {
				if err != nil || gone != api.ErrDown {
					t.Errorf("%s: %v; the power gone: %v", name, err, gone)
				}
				holds(t, name, d, "........."[:at]+text[:n]+"........."[at+n:], 1)
			}
			if down.Waits() != 0 {
				t.Errorf("%s: it waits, the power gone", name)
			}
		}
	}
}

// TestDI1Nothing: writes and reads of no bytes, at each place and at the end; such a write waits too.
func TestDI1Nothing(t *testing.T) {
	d := made(t, 3)
	writes(t, d, 0, "abc")
	syncs(t, d)
	for at := range 4 {
		if err := d.Write(at, nil); err != nil {
			t.Errorf("Write of nil at %d: %v", at, err)
		}
		writes(t, d, at, "")
		if b, err := d.Read(at, 0); len(b) != 0 || err != nil {
			t.Errorf("Read of nothing at %d: %q, %v", at, b, err)
		}
		holds(t, "nothing written", d, "abc", 2*at+2)
	}
	for _, at := range []int{-1, 4} {
		if err := d.Write(at, nil); err != api.ErrArg {
			t.Errorf("Write of nil at %d: %v", at, err)
		}
		if b, err := d.Read(at, 0); err != api.ErrArg || len(b) != 0 {
			t.Errorf("Read of nothing at %d: %q, %v", at, b, err)
		}
	}
	holds(t, "nothing written, nor at no place", d, "abc", 8)
	syncs(t, d)
	holds(t, "synced", d, "abc", 0)
}

// TestDI1LastWrite: of writes one over the other the last one is read.
func TestDI1LastWrite(t *testing.T) {
	d := made(t, 8)
	steps := []struct {
		at   int
		b    string
		want string
	}{
		{2, "abcd", "..abcd.."},
		{0, "xyz", "xyzbcd.."},
		{5, "123", "xyzbc123"},
		{3, "\x00\x00", "xyz..123"},
		{0, "--------", "--------"},
		{7, "!", "-------!"},
		{7, "?", "-------?"},
	}
	for i, s := range steps {
		writes(t, d, s.at, s.b)
		holds(t, "written", d, s.want, i+1)
	}
}

// TestDI1Sync: all that was written is safe, and waits no more; also where nothing waits.
func TestDI1Sync(t *testing.T) {
	d := made(t, 6)
	syncs(t, d)
	holds(t, "nothing synced", d, "......", 0)
	writes(t, d, 0, "abcd")
	writes(t, d, 2, "xyz")
	holds(t, "written", d, "abxyz.", 2)
	syncs(t, d)
	holds(t, "synced", d, "abxyz.", 0)
	syncs(t, d)
	holds(t, "synced twice", d, "abxyz.", 0)
	writes(t, d, 1, "12")
	holds(t, "written again", d, "a12yz.", 1)
	d.Start(nil)
	holds(t, "lost", d, "abxyz.", 0)
	writes(t, d, 5, "!")
	syncs(t, d)
	d.Start(nil)
	holds(t, "synced behind a start", d, "abxyz!", 0)
}

// TestDI1ManyWaits: each write waits, and one Sync is enough for all.
func TestDI1ManyWaits(t *testing.T) {
	d := made(t, 7)
	want := []byte(".......")
	for i := range 5000 {
		want[i%7] = byte('a' + i%26)
		writes(t, d, i%7, string(want[i%7]))
		if d.Waits() != i+1 {
			t.Fatalf("%d wait behind %d writes", d.Waits(), i+1)
		}
	}
	holds(t, "written", d, string(want), 5000)
	syncs(t, d)
	holds(t, "synced", d, string(want), 0)
	d.Start(nil)
	holds(t, "started", d, string(want), 0)
}

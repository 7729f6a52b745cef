package tape_test

import (
	"strconv"
	"strings"
	"testing"

	"tollbar/api"
	"tollbar/disk"
	"tollbar/tape"
)

// lays appends, and must.
func lays(t *testing.T, x *tape.Tape, records ...string) {
	t.Helper()
	for _, r := range records {
		if err := x.Append([]byte(r)); err != nil {
			t.Fatalf("Append of %s: %v", told([]string{r}), err)
		}
	}
}

// over is a text with another one written over it.
func over(s string, at int, b string) string { return s[:at] + b + s[at+len(b):] }

// bytesAre looks at all bytes of a disk.
func bytesAre(t *testing.T, name string, d *disk.Disk, want string) {
	t.Helper()
	if got := onDisk(t, d); got != want {
		t.Fatalf("%s: %q, not %q", name, got, want)
	}
}

// arms lets the power go behind so many steps.
func arms(t *testing.T, d *disk.Disk, steps int) {
	t.Helper()
	if err := d.Arm(steps); err != nil {
		t.Fatalf("Arm of %d: %v", steps, err)
	}
}

// cut is a step of a call within which the power went: what was on the disk, what it wrote at a place, if it is a Write, or has to sync.
type cut struct {
	name, before string
	at           int
	written      string
}

// kept starts clones of a disk whose power went within a step with each begin of what was written: this write alone is not safe, and not a byte more.
func (c cut) kept(t *testing.T, d *disk.Disk) {
	t.Helper()
	if !d.Down() || d.Waits() != 1 {
		t.Fatalf("%s: down %v, %d wait", c.name, d.Down(), d.Waits())
	}
	for n := range len(c.written) + 1 {
		part := d.Clone()
		part.Start([]int{0, n})
		bytesAre(t, c.name+", of which "+strconv.Itoa(n)+" are kept", part, over(c.before, c.at, c.written[:n]))
	}
	more, all := d.Clone(), d.Clone()
	more.Start([]int{0, len(c.written) + 1})
	bytesAre(t, c.name+", a byte more than all", more, c.before)
	all.Start([]int{1})
	bytesAre(t, c.name+", all", all, over(c.before, c.at, c.written))
}

// TestTA2Steps: the four steps: what each writes, where, and that it is this alone; the byte 0 behind where there is a place. Nothing else of the disk changes.
func TestTA2Steps(t *testing.T) {
	for _, at := range []int{0, 3} {
		for _, ahead := range [][]string{nil, {""}, {"abc", "d"}} {
			for _, r := range []string{"", "x", "\x00\x01\x02\xff", "seven b"} {
				for behind := range 8 {
					steps(t, at, ahead, r, behind)
				}
			}
		}
	}
}

// steps looks at those of an Append of a record, in an area at a place with records ahead and so many bytes left behind it.
func steps(t *testing.T, at int, ahead []string, r string, behind int) {
	t.Helper()
	s := onTape(ahead)
	a := tape.Area{At: at, Len: len(s) + 5 + len(r) + behind}
	before := strings.Repeat("#", at) + s + "\x00" + strings.Repeat("#", 4+len(r)+behind+9)
	place := at + len(s)
	text := head(0, len(r))[1:] + r
	if behind >= 5 {
		text += "\x00"
	}
	between := over(before, place+1, text)
	name := told([]string{r}) + " behind " + told(ahead) + ", " + strconv.Itoa(behind) + " bytes behind, step "
	cuts := []cut{
		{name + "1", before, place + 1, text},
		{name + "2", before, place + 1, text},
		{name + "3", between, place, "\x01"},
		{name + "4", between, place, "\x01"},
	}
	for n, c := range cuts {
		d := laid(t, before)
		x := opens(t, name, d, a, ahead...)
		arms(t, d, n)
		if err := x.Append([]byte(r)); err != api.ErrDown {
			t.Fatalf("%s: %v", c.name, err)
		}
		has(t, c.name, x, a, ahead)
		c.kept(t, d)
	}
	d := laid(t, before)
	x := opens(t, name, d, a, ahead...)
	arms(t, d, 4)
	lays(t, x, r)
	if d.Waits() != 0 {
		t.Fatalf("%s: %d wait behind an Append", name, d.Waits())
	}
	all := append(append([]string(nil), ahead...), r)
	has(t, name, x, a, all)
	bytesAre(t, name, d, over(between, place, "\x01"))
	if err := d.Sync(); err != api.ErrDown {
		t.Fatalf("%s5: %v", name, err)
	}
	d.Start(nil)
	opens(t, name+"4 done", d, a, all...)
}

// TestTA2ResetSteps: the two steps of a Reset: a byte 0 at the area's begin, and a Sync.
func TestTA2ResetSteps(t *testing.T) {
	for _, at := range []int{0, 4} {
		for _, ahead := range [][]string{nil, {""}, {"abc", "d", ""}} {
			s := onTape(ahead)
			before := strings.Repeat("#", at) + s + "\x00" + strings.Repeat("#", 9)
			a := tape.Area{At: at, Len: len(s) + 7}
			name := "Reset of " + told(ahead) + ", step "
			for n := range 2 {
				d := laid(t, before)
				x := opens(t, name, d, a, ahead...)
				arms(t, d, n)
				if err := x.Reset(); err != api.ErrDown {
					t.Fatalf("%s%d: %v", name, n+1, err)
				}
				has(t, name, x, a, ahead)
				cut{name + strconv.Itoa(n+1), before, at, "\x00"}.kept(t, d)
			}
			d := laid(t, before)
			x := opens(t, name, d, a, ahead...)
			arms(t, d, 2)
			if err := x.Reset(); err != nil || d.Waits() != 0 {
				t.Fatalf("%s: %v, %d wait", name, err, d.Waits())
			}
			has(t, name, x, a, nil)
			bytesAre(t, name, d, over(before, at, "\x00"))
			if err := d.Sync(); err != api.ErrDown {
				t.Fatalf("%s3: %v", name, err)
			}
			d.Start(nil)
			opens(t, name+"2 done", d, a)
		}
	}
}

// TestTA2Length: the length is four bytes, the highest first.
func TestTA2Length(t *testing.T) {
	for n, want := range map[int]string{
		0: "\x00\x00\x00\x00", 1: "\x00\x00\x00\x01", 255: "\x00\x00\x00\xff", 256: "\x00\x00\x01\x00",
		65537: "\x00\x01\x00\x01", 0x0a0b0c: "\x00\x0a\x0b\x0c", api.MaxBytes: "\x00\x10\x00\x00",
	} {
		d := laid(t, strings.Repeat("\x00", n+12))
		x := opens(t, "noughts", d, tape.Area{At: 2, Len: n + 10})
		r := strings.Repeat("r", n)
		lays(t, x, r)
		bytesAre(t, "of "+strconv.Itoa(n), d, "\x00\x00\x01"+want+r+noughts(5))
		opens(t, "of "+strconv.Itoa(n), d, tape.Area{At: 2, Len: n + 10}, r)
	}
}

// fails appends, which must fail, do no step, and leave the tape as it was.
func fails(t *testing.T, name string, d *disk.Disk, x *tape.Tape, n int, want api.Errno) {
	t.Helper()
	size, room, before := x.Len(), x.Room(), onDisk(t, d)
	c := d.Clone()
	if err := x.Append(make([]byte, n)); err != want {
		t.Fatalf("%s: Append of %d: %v, not %v", name, n, err, want)
	}
	if x.Len() != size || x.Room() != room || d.Waits() != c.Waits() {
		t.Fatalf("%s: Append of %d: %d records, room %d, %d wait", name, n, x.Len(), x.Room(), d.Waits())
	}
	bytesAre(t, name, d, before)
}

// TestTA2Full: areas of each size, filled by records of each length: one byte more than the room is refused, no step is done, and the tape goes on.
func TestTA2Full(t *testing.T) {
	for size := 5; size < 40; size++ {
		for n := range 16 {
			d := laid(t, noughts(size)+"####")
			a := tape.Area{At: 0, Len: size}
			x := opens(t, "empty", d, a)
			var all []string
			for room := size - 5; room >= n; room -= n + 5 {
				fails(t, "full", d, x, room+1, api.ErrFull)
				fails(t, "full", d, x, room+9, api.ErrFull)
				all = append(all, "0123456789abcdef"[:n])
				lays(t, x, all[0])
				has(t, "laid", x, a, all)
			}
			fails(t, "full", d, x, n, api.ErrFull)
			if room := x.Room(); room >= 0 {
				all = append(all, strings.Repeat("z", room))
				lays(t, x, all[len(all)-1])
			}
			has(t, "filled", x, a, all)
			for n := range 3 {
				fails(t, "no place", d, x, n, api.ErrFull)
			}
			opens(t, "again", d, a, all...)
			if end := onDisk(t, d)[size:]; end != "####" {
				t.Fatalf("behind the area: %q", end)
			}
		}
	}
}

// TestTA2NoStep: what is refused is no step, and the tape is not dead behind it.
func TestTA2NoStep(t *testing.T) {
	d := laid(t, noughts(20))
	x := opens(t, "empty", d, tape.Area{At: 0, Len: 20})
	arms(t, d, 4)
	for range 5 {
		fails(t, "armed", d, x, 16, api.ErrFull)
		fails(t, "armed", d, x, api.MaxBytes+1, api.ErrLong)
	}
	lays(t, x, "abc")
	if err := d.Sync(); err != api.ErrDown {
		t.Errorf("the fifth step: %v", err)
	}
}

// TestTA2Long: MaxBytes bytes are laid, where there is room for them; one more never is: ErrLong, be there room or not.
func TestTA2Long(t *testing.T) {
	whole := strings.Repeat("w", api.MaxBytes)
	for _, size := range []int{5, api.MaxBytes + 4, api.MaxBytes + 5, api.MaxBytes + 6, 4 * api.MaxBytes} {
		d := laid(t, noughts(size))
		a := tape.Area{At: 0, Len: size}
		x := opens(t, "empty", d, a)
		for _, n := range []int{api.MaxBytes + 1, api.MaxBytes + 2, 2 * api.MaxBytes} {
			fails(t, "too long", d, x, n, api.ErrLong)
		}
		if size < api.MaxBytes+5 {
			fails(t, "too long for the room", d, x, api.MaxBytes, api.ErrFull)
			continue
		}
		lays(t, x, whole)
		fails(t, "too long, behind one", d, x, api.MaxBytes+1, api.ErrLong)
		opens(t, "again", d, a, whole)
	}
}

// TestTA2Reset: behind a Reset there are no records, and none of the old ones comes back, however short the new ones are.
func TestTA2Reset(t *testing.T) {
	for _, r := range []string{"", "a", "ab", "abcdef", "0123456789012345"} {
		d := laid(t, noughts(40)+"##")
		a := tape.Area{At: 0, Len: 40}
		x := opens(t, "empty", d, a)
		for range 3 {
			lays(t, x, "", "", "\x01\x01\x01\x01\x01\x01\x01\x01", "")
			lays(t, x, strings.Repeat("\x01", x.Room()))
			for range 2 {
				if err := x.Reset(); err != nil {
					t.Fatalf("Reset: %v", err)
				}
				has(t, "reset", x, a, nil)
				opens(t, "reset", d, a)
			}
			var all []string
			for x.Room() >= len(r) {
				lays(t, x, r)
				all = append(all, r)
				has(t, "laid", x, a, all)
				opens(t, "again", d, a, all...)
			}
			if err := x.Reset(); err != nil {
				t.Fatalf("Reset: %v", err)
			}
		}
	}
}

// stays looks at a dead tape: what each call answers, that it does no step, and that what it has is as it was.
func stays(t *testing.T, name string, d *disk.Disk, x *tape.Tape, a tape.Area, records []string) {
	t.Helper()
	before := onDisk(t, d)
	for range 2 {
		for _, n := range []int{0, 1, a.Len + 1, api.MaxBytes + 1} {
			if err := x.Append(make([]byte, n)); err != api.ErrDown {
				t.Fatalf("%s: Append of %d to a dead tape: %v", name, n, err)
			}
		}
		if err := x.Reset(); err != api.ErrDown {
			t.Fatalf("%s: Reset of a dead tape: %v", name, err)
		}
		has(t, name, x, a, records)
	}
	if d.Waits() != 0 {
		t.Fatalf("%s: a dead tape writes: %d wait", name, d.Waits())
	}
	bytesAre(t, name, d, before)
}

// TestTA2Dead: the first error of a step is what all later calls answer, the power back or not, and also those that are wrong otherwise.
func TestTA2Dead(t *testing.T) {
	for n := range 6 {
		d := laid(t, noughts(40))
		a := tape.Area{At: 1, Len: 39}
		x := opens(t, "empty", d, a)
		all := []string{"ab", "", "cdefg"}
		lays(t, x, all...)
		arms(t, d, n%4)
		call := func() error { return x.Append([]byte("h")) }
		if n >= 4 {
			call = x.Reset
		}
		if err := call(); err != api.ErrDown {
			t.Fatalf("step %d: %v", n, err)
		}
		for range 2 {
			if err := x.Append(nil); err != api.ErrDown {
				t.Fatalf("step %d: Append, the power gone: %v", n, err)
			}
			if err := x.Reset(); err != api.ErrDown {
				t.Fatalf("step %d: Reset, the power gone: %v", n, err)
			}
			has(t, "the power gone", x, a, all)
		}
		d.Start(nil)
		stays(t, "step "+strconv.Itoa(n), d, x, a, all)
		opens(t, "step "+strconv.Itoa(n)+", opened again", d, a, all...)
	}
}

// TestTA2Gone: the power went outside of the tape: what is refused without a step is refused as ever, and the first step is the tape's death.
func TestTA2Gone(t *testing.T) {
	for _, reset := range []bool{false, true} {
		d := laid(t, noughts(30))
		a := tape.Area{At: 0, Len: 30}
		x := opens(t, "empty", d, a)
		lays(t, x, "ab")
		ends(t, d)
		if err := x.Append(make([]byte, api.MaxBytes+1)); err != api.ErrLong {
			t.Errorf("too long, the power gone: %v", err)
		}
		if err := x.Append(make([]byte, 30)); err != api.ErrFull {
			t.Errorf("too much, the power gone: %v", err)
		}
		has(t, "the power gone", x, a, []string{"ab"})
		d.Start(nil)
		lays(t, x, "cd")
		ends(t, d)
		call := func() error { return x.Append(nil) }
		if reset {
			call = x.Reset
		}
		if err := call(); err != api.ErrDown {
			t.Errorf("the power gone: %v", err)
		}
		d.Start(nil)
		stays(t, "the power back", d, x, a, []string{"ab", "cd"})
		lays(t, opens(t, "opened again", d, a, "ab", "cd"), "ef")
		opens(t, "and again", d, a, "ab", "cd", "ef")
	}
}

// TestTA2Nil: a nil Tape: ErrArg, and nothing.
func TestTA2Nil(t *testing.T) {
	var x *tape.Tape
	for _, n := range []int{0, 1, api.MaxBytes + 1} {
		if err := x.Append(make([]byte, n)); err != api.ErrArg {
			t.Errorf("Append of %d: %v", n, err)
		}
	}
	if err := x.Append(nil); err != api.ErrArg {
		t.Errorf("Append of nil: %v", err)
	}
	if err := x.Reset(); err != api.ErrArg {
		t.Errorf("Reset: %v", err)
	}
	if x.Room() != -1 || x.Len() != 0 {
		t.Errorf("room %d, %d records", x.Room(), x.Len())
	}
}

// fill overwrites bytes, and the spare room behind them.
func fill(b []byte) {
	b = b[:cap(b)]
	for i := range b {
		b[i] = '#'
	}
}

// TestRule3Memory: the tape keeps and changes no argument, and the records of an answer are new, one by one, spare room too.
func TestRule3Memory(t *testing.T) {
	d := laid(t, noughts(40))
	a := tape.Area{At: 0, Len: 40}
	x := opens(t, "empty", d, a)
	all := []string{"abcd", "", "efg"}
	for _, r := range all {
		in := []byte(r + " and room")
		if err := x.Append(in[:len(r)]); err != nil || string(in) != r+" and room" {
			t.Errorf("Append: %v, and the argument is %q", err, in)
		}
		fill(in)
	}
	_, first, err := tape.Open(d, a)
	if err != nil || len(first) != 3 {
		t.Fatalf("Open: %d records, %v", len(first), err)
	}
	_, second, _ := tape.Open(d, a)
	for i := range first {
		fill(first[i])
		for j := i + 1; j < len(first); j++ {
			if string(first[j]) != all[j] {
				t.Errorf("the records %d and %d share: %q", i, j, first[j])
			}
		}
		if string(second[i]) != all[i] {
			t.Errorf("two answers share: %q", second[i])
		}
	}
	for i := range second {
		fill(second[len(second)-1-i])
		if i+1 < len(second) && string(second[len(second)-2-i]) != all[len(second)-2-i] {
			t.Errorf("a record shares with the one behind it: %q", second[len(second)-2-i])
		}
	}
	opens(t, "the answers overwritten", d, a, all...)
	has(t, "the answers overwritten", x, a, all)
}

package tape_test

import (
	"math/rand"
	"slices"
	"strconv"
	"testing"

	"tollbar/api"
	"tollbar/disk"
	"tollbar/tape"
)

// TestTA3Append: the power going within each of the four steps of each Append, whatever is kept: the records are those that were laid, and at most the one that was cut short, whole; and the tape goes on.
func TestTA3Append(t *testing.T) {
	records := []string{"", "\x01\x01\x01\x01\x01\x01", "ab", "\x00", "z"}
	a := tape.Area{At: 3, Len: len(onTape(records))}
	for cutAt := range records {
		for n := range 4 {
			d := laid(t, "###\x00"+string(slices.Repeat([]byte{1}, a.Len-1))+"##")
			x := opens(t, "empty", d, a)
			lays(t, x, records[:cutAt]...)
			arms(t, d, n)
			if err := x.Append([]byte(records[cutAt])); err != api.ErrDown {
				t.Fatalf("record %d, step %d: %v", cutAt, n, err)
			}
			for whole := range 3 {
				for part := range 5 + len(records[cutAt]) + 2 {
					one := d.Clone()
					one.Start([]int{whole, part})
					name := "record " + strconv.Itoa(cutAt) + ", step " + strconv.Itoa(n) + ", kept " + strconv.Itoa(whole) + " " + strconv.Itoa(part)
					there := cutAt
					// The mark, one byte, is the write of the third step.
					if n >= 2 && (whole == 1 || part%2 == 1) {
						there++
					}
					y := opens(t, name, one, a, records[:there]...)
					lays(t, y, records[there:]...)
					opens(t, name+", gone on", one, a, records...)
				}
			}
		}
	}
}

// TestTA3Reset: the power going within each of the two steps of Reset: all, or none; and the tape goes on.
func TestTA3Reset(t *testing.T) {
	records := []string{"ab", "", "\x01\x01\x01\x01\x01\x01"}
	for n := range 2 {
		for keep, there := range [][]string{records, nil, records} {
			d := laid(t, noughts(40))
			a := tape.Area{At: 2, Len: 38}
			x := opens(t, "empty", d, a)
			lays(t, x, records...)
			arms(t, d, n)
			if err := x.Reset(); err != api.ErrDown {
				t.Fatalf("step %d: %v", n, err)
			}
			d.Start([]int{keep})
			name := "step " + strconv.Itoa(n) + ", kept " + strconv.Itoa(keep)
			y := opens(t, name, d, a, there...)
			lays(t, y, "cd")
			opens(t, name+", gone on", d, a, append(slices.Clone(there), "cd")...)
		}
	}
}

// drawn is a tape and what must be on it: the records; what may be instead, if a call was cut short.
type drawn struct {
	x       *tape.Tape
	a       tape.Area
	all     []string
	instead []string
	dead    bool
}

// act does something that is drawn to a tape.
func (b *drawn) act(t *testing.T, draw *rand.Rand) {
	t.Helper()
	r := make([]byte, draw.Intn(1+draw.Intn(12)))
	for i := range r {
		r[i] = "\x00\x01\x02a"[draw.Intn(4)]
	}
	next := append(slices.Clone(b.all), string(r))
	room := b.x.Room()
	call := func() error { return b.x.Append(r) }
	if draw.Intn(8) == 0 {
		next, room = nil, len(r)
		call = b.x.Reset
	}
	err := call()
	switch {
	case b.dead:
		if err != api.ErrDown {
			t.Fatalf("a dead tape: %v", err)
		}
	case len(r) > room:
		if err != api.ErrFull {
			t.Fatalf("%d bytes where room is for %d: %v", len(r), room, err)
		}
	case err == api.ErrDown:
		b.instead, b.dead = next, true
	case err != nil:
		t.Fatalf("%d bytes where room is for %d: %v", len(r), room, err)
	default:
		b.all = next
	}
	has(t, "drawn", b.x, b.a, b.all)
}

// again opens a tape again, the power being back: its records are those that there are, or those that the call that was cut short should have left.
func (b *drawn) again(t *testing.T, d *disk.Disk) {
	t.Helper()
	x, got, err := tape.Open(d, b.a)
	all := texts(got)
	if err != nil || !slices.Equal(all, b.all) && !(b.dead && slices.Equal(all, b.instead)) {
		t.Fatalf("%s, %v, not %s, nor (dead %v) %s", told(all), err, told(b.all), b.dead, told(b.instead))
	}
	*b = drawn{x: x, a: b.a, all: all}
	has(t, "again", b.x, b.a, b.all)
}

// TestTA3Drawn: two tapes beside one another on one disk, whatever is done to them, wherever the power goes, whatever is kept; nothing outside of them changes.
func TestTA3Drawn(t *testing.T) {
	for seed := range 400 {
		draw := rand.New(rand.NewSource(int64(seed)))
		first, second := 5+draw.Intn(40), 5+draw.Intn(40)
		d := laid(t, "##"+noughts(first)+"#"+noughts(second)+"##")
		tapes := []*drawn{{a: tape.Area{At: 2, Len: first}}, {a: tape.Area{At: first + 3, Len: second}}}
		for _, b := range tapes {
			b.x = opens(t, "empty", d, b.a)
		}
		for range 60 {
			if draw.Intn(6) == 0 {
				arms(t, d, draw.Intn(14))
			}
			tapes[draw.Intn(2)].act(t, draw)
			if d.Down() && draw.Intn(2) == 0 || draw.Intn(30) == 0 {
				d.Start([]int{draw.Intn(4), draw.Intn(20)})
				for _, b := range tapes {
					b.again(t, d)
				}
			}
		}
		d.Start(nil)
		for _, b := range tapes {
			b.again(t, d)
		}
		s := onDisk(t, d)
		if s[:2] != "##" || s[2+first] != '#' || s[len(s)-2:] != "##" {
			t.Fatalf("seed %d: outside of the tapes: %q", seed, s)
		}
	}
}

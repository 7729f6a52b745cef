package tape_test

import (
	"math"
	"math/big"
	"math/rand"
	"slices"
	"strconv"
	"strings"
	"testing"

	"tollbar/api"
	"tollbar/disk"
	"tollbar/tape"
)

// laid is a disk of these bytes, all safe.
func laid(t *testing.T, s string) *disk.Disk {
	t.Helper()
	d, err := disk.New(len(s))
	if err != nil {
		t.Fatalf("New of %d: %v", len(s), err)
	}
	if err := d.Write(0, []byte(s)); err != nil {
		t.Fatalf("Write: %v", err)
	}
	if err := d.Sync(); err != nil {
		t.Fatalf("Sync: %v", err)
	}
	return d
}

// noughts are so many of them.
func noughts(n int) string { return strings.Repeat("\x00", n) }

// head is a mark and a length, as they stand ahead of a record's bytes.
func head(mark byte, n int) string {
	return string([]byte{mark, byte(n / 16777216), byte(n / 65536 % 256), byte(n / 256 % 256), byte(n % 256)})
}

// record is a record that is there.
func record(s string) string { return head(1, len(s)) + s }

// onTape are records, one behind the other.
func onTape(records []string) string {
	s := ""
	for _, r := range records {
		s += record(r)
	}
	return s
}

// onDisk are all bytes of a disk.
func onDisk(t *testing.T, d *disk.Disk) string {
	t.Helper()
	b, err := d.Read(0, d.Size())
	if err != nil {
		t.Fatalf("Read: %v", err)
	}
	return string(b)
}

// told are records, for a message.
func told(l []string) string {
	var s []string
	for _, r := range l {
		if len(r) > 30 {
			r = r[:30] + ".. of " + strconv.Itoa(len(r))
		}
		s = append(s, strconv.Quote(r))
	}
	return strings.Join(s, " ")
}

// texts are records as texts.
func texts(l [][]byte) []string {
	var s []string
	for _, r := range l {
		s = append(s, string(r))
	}
	return s
}

// has looks at how many records a tape has, and at the room behind them.
func has(t *testing.T, name string, x *tape.Tape, a tape.Area, records []string) {
	t.Helper()
	room := -1
	if left := a.Len - len(onTape(records)); left >= 5 {
		room = left - 5
	}
	if x.Len() != len(records) || x.Room() != room {
		t.Fatalf("%s: %d records, room %d, not %d, %d", name, x.Len(), x.Room(), len(records), room)
	}
}

// opens opens, and must find these records, and the room behind them.
func opens(t *testing.T, name string, d *disk.Disk, a tape.Area, records ...string) *tape.Tape {
	t.Helper()
	waits := d.Waits()
	x, got, err := tape.Open(d, a)
	if err != nil || x == nil || !slices.Equal(texts(got), records) {
		t.Fatalf("%s: Open of %d at %d: %s, %v, not %s", name, a.Len, a.At, told(texts(got)), err, told(records))
	}
	if d.Waits() != waits {
		t.Fatalf("%s: Open writes", name)
	}
	has(t, name, x, a, records)
	return x
}

// refuses opens, and must not.
func refuses(t *testing.T, name string, d *disk.Disk, a tape.Area, want api.Errno) {
	t.Helper()
	if x, got, err := tape.Open(d, a); x != nil || len(got) != 0 || err != want {
		t.Fatalf("%s: Open of %d at %d: %v, %s, %v, not %v", name, a.Len, a.At, x, told(texts(got)), err, want)
	}
}

// ends lets the power of a disk go.
func ends(t *testing.T, d *disk.Disk) {
	t.Helper()
	if err := d.Arm(0); err != nil {
		t.Fatalf("Arm: %v", err)
	}
	if err := d.Sync(); err != api.ErrDown || !d.Down() {
		t.Fatalf("Sync: %v, the power going", err)
	}
}

// TestTA1Example: the document's example, and the third record, for which there is no place.
func TestTA1Example(t *testing.T) {
	d := laid(t, noughts(20))
	a := tape.Area{At: 0, Len: 20}
	x := opens(t, "empty", d, a)
	if x.Room() != 15 {
		t.Errorf("room %d", x.Room())
	}
	for i, room := range []int{5, -1} {
		if err := x.Append([]byte("abcde")); err != nil || x.Len() != i+1 || x.Room() != room {
			t.Errorf("Append: %v, %d records, room %d, not %d", err, x.Len(), x.Room(), room)
		}
	}
	if err := x.Append(nil); err != api.ErrFull {
		t.Errorf("a third Append: %v", err)
	}
	opens(t, "again", d, a, "abcde", "abcde")
}

// edges are numbers about a disk of 12 bytes, about an area of 5, and about the bounds of an int.
func edges() []int {
	l := []int{math.MinInt, math.MinInt + 1, math.MinInt + 5, math.MinInt + 12, -api.MaxIndex}
	for n := -14; n < 20; n++ {
		l = append(l, n)
	}
	return append(l, 1<<32, 1<<32+5, math.MaxInt-12, math.MaxInt-11, math.MaxInt-5, math.MaxInt-4, math.MaxInt-1, math.MaxInt)
}

// within tells whether these are 5 bytes or more of a disk of a size; the sum is one of any size.
func within(a tape.Area, size int) bool {
	sum := new(big.Int).Add(big.NewInt(int64(a.At)), big.NewInt(int64(a.Len)))
	return a.At >= 0 && a.Len >= 5 && sum.Cmp(big.NewInt(int64(size))) <= 0
}

// TestTA1Areas: every place and length: an area of the disk with at least 5 bytes, or ErrArg, the power on or gone.
func TestTA1Areas(t *testing.T) {
	for _, size := range []int{1, 4, 5, 6, 12} {
		d := laid(t, noughts(size))
		down := d.Clone()
		ends(t, down)
		for _, at := range edges() {
			for _, n := range edges() {
				a := tape.Area{At: at, Len: n}
				if within(a, size) {
					opens(t, "of "+strconv.Itoa(size), d, a)
					refuses(t, "the power gone", down, a, api.ErrDown)
				} else {
					refuses(t, "of "+strconv.Itoa(size), d, a, api.ErrArg)
					refuses(t, "the power gone", down, a, api.ErrArg)
				}
			}
		}
	}
}

// TestTA1Nil: no disk: ErrArg, whatever the area.
func TestTA1Nil(t *testing.T) {
	for _, at := range edges() {
		for _, n := range edges() {
			refuses(t, "no disk", nil, tape.Area{At: at, Len: n}, api.ErrArg)
		}
	}
}

// TestTA1Down: the power gone: ErrDown, also where there is what can't be; behind a start it is opened.
func TestTA1Down(t *testing.T) {
	good, bad := laid(t, record("ab")+noughts(9)), laid(t, noughts(2)+head(2, 0)+noughts(9))
	a, b := tape.Area{At: 0, Len: 16}, tape.Area{At: 2, Len: 9}
	for _, d := range []*disk.Disk{good, bad} {
		ends(t, d)
	}
	refuses(t, "the power gone", good, a, api.ErrDown)
	refuses(t, "the power gone", bad, b, api.ErrDown)
	for _, d := range []*disk.Disk{good, bad} {
		d.Start(nil)
	}
	opens(t, "started", good, a, "ab")
	refuses(t, "started", bad, b, api.ErrHalt)
}

// TestTA1NoStep: Open does no step, and is none that something armed waits for.
func TestTA1NoStep(t *testing.T) {
	d := laid(t, record("ab")+noughts(9))
	if err := d.Arm(1); err != nil {
		t.Fatalf("Arm: %v", err)
	}
	for range 5 {
		opens(t, "armed", d, tape.Area{At: 0, Len: 16}, "ab")
	}
	if err := d.Sync(); err != nil {
		t.Errorf("the first step: %v", err)
	}
	if err := d.Sync(); err != api.ErrDown {
		t.Errorf("the second step: %v", err)
	}
}

// TestTA1Marks: each mark at each place: 0 ends the records, 1 is one, another one can't be; none behind the first 0 is looked at.
func TestTA1Marks(t *testing.T) {
	for mark := range 256 {
		ahead, all := "", []string(nil)
		for _, r := range []string{"", "ab", "c", "\x00\x01\x02\x03\x04\x05"} {
			d := laid(t, "##"+ahead+head(byte(mark), len("xyz"))+"xyz"+noughts(6)+"##")
			a := tape.Area{At: 2, Len: d.Size() - 4}
			name := "the mark " + strconv.Itoa(mark) + " behind " + told(all)
			switch mark {
			case 0:
				opens(t, name, d, a, all...)
			case 1:
				opens(t, name, d, a, append(slices.Clone(all), "xyz")...)
			default:
				refuses(t, name, d, a, api.ErrHalt)
			}
			ahead += record(r)
			all = append(all, r)
		}
		d := laid(t, ahead+head(0, 4)+head(byte(mark), 999)+head(byte(mark), 0))
		opens(t, "behind a 0", d, tape.Area{At: 0, Len: d.Size()}, all...)
	}
}

// TestTA1Lengths: a record that has the mark 1 lies within the area, be there more disk behind it or not.
func TestTA1Lengths(t *testing.T) {
	long := []int{16, 17, 30, 255, 256, 4096, 65535, 65536, 1 << 20, 1 << 24, 1<<31 - 1, 1 << 31, 1<<32 - 16, 1<<32 - 5, 1<<32 - 1}
	for behind := range 9 {
		const area = 20
		rest := "abcdefghijklmno" + strings.Repeat("\x01", behind)
		for n := range 16 {
			d := laid(t, head(1, n)+rest[:n]+noughts(15-n)+rest[15:])
			opens(t, "of "+strconv.Itoa(n), d, tape.Area{At: 0, Len: area}, rest[:n])
		}
		for _, n := range long {
			whole, second := laid(t, head(1, n)+rest), laid(t, record("")+head(1, n-5)+rest)
			refuses(t, "of "+strconv.Itoa(n), whole, tape.Area{At: 0, Len: area}, api.ErrHalt)
			refuses(t, "a second one of "+strconv.Itoa(n-5), second, tape.Area{At: 0, Len: area}, api.ErrHalt)
			none, other := laid(t, head(0, n)+rest), laid(t, head(2, n)+rest)
			opens(t, "none of "+strconv.Itoa(n), none, tape.Area{At: 0, Len: area})
			refuses(t, "the mark 2, of "+strconv.Itoa(n), other, tape.Area{At: 0, Len: area}, api.ErrHalt)
		}
	}
}

// TestTA1Places: where less than 5 bytes are left is no place, and no mark, whatever is there; where 5 are is one.
func TestTA1Places(t *testing.T) {
	for n := range 12 {
		for _, c := range []string{"\x00", "\x01", "\x02", "\xff"} {
			for _, all := range [][]string{{""}, {"ab"}, {"", "abcdef"}} {
				s := onTape(all)
				rest := strings.Repeat(c, n)
				if n >= 5 {
					rest = "\x00" + rest[1:]
				}
				d := laid(t, "#"+s+rest+"\x02\x02\x02\x02\x02")
				opens(t, strconv.Itoa(n)+" bytes left", d, tape.Area{At: 1, Len: len(s) + n}, all...)
			}
		}
	}
	d := laid(t, "\x01\x00\x00\x00\x00")
	opens(t, "all of 5", d, tape.Area{At: 0, Len: 5}, "")
}

// TestTA1Within: records end at the area's end, though the disk has more that look like them; the area begins at its place.
func TestTA1Within(t *testing.T) {
	s := record("a") + record("bb") + record("ccc")
	d := laid(t, s+noughts(9))
	opens(t, "all", d, tape.Area{At: 0, Len: len(s) + 9}, "a", "bb", "ccc")
	opens(t, "to its end", d, tape.Area{At: 0, Len: len(s)}, "a", "bb", "ccc")
	refuses(t, "a byte too few", d, tape.Area{At: 0, Len: len(s) - 1}, api.ErrHalt)
	opens(t, "from the second one on", d, tape.Area{At: 6, Len: len(s) - 6}, "bb", "ccc")
	opens(t, "the second one", d, tape.Area{At: 6, Len: 7}, "bb")
	opens(t, "the second one and 4 bytes", d, tape.Area{At: 6, Len: 11}, "bb")
	refuses(t, "the second one and 5 bytes", d, tape.Area{At: 6, Len: 12}, api.ErrHalt)
	opens(t, "behind all", d, tape.Area{At: len(s), Len: 9})
}

// found are the records of an area, looked for as the words have them; false, if there is what can't be.
func found(s string) ([]string, bool) {
	if len(s) < 5 || s[0] == 0 {
		return nil, true
	}
	n := new(big.Int).SetBytes([]byte(s[1:5]))
	if s[0] != 1 || n.Cmp(big.NewInt(int64(len(s)-5))) > 0 {
		return nil, false
	}
	end := 5 + int(n.Int64())
	rest, ok := found(s[end:])
	return append([]string{s[5:end]}, rest...), ok
}

// TestTA1Drawn: whatever bytes there are.
func TestTA1Drawn(t *testing.T) {
	draw := rand.New(rand.NewSource(4))
	halts := 0
	for range 20000 {
		b := make([]byte, 5+draw.Intn(40))
		for i := range b {
			b[i] = "\x00\x00\x00\x00\x01\x01\x01\x01\x02\x03\x07\xff"[draw.Intn(9+draw.Intn(4))]
		}
		at := draw.Intn(len(b) - 4)
		a := tape.Area{At: at, Len: 5 + draw.Intn(len(b)-at-4)}
		all, ok := found(string(b[at : at+a.Len]))
		d := laid(t, string(b))
		if ok {
			opens(t, strconv.Quote(string(b)), d, a, all...)
		} else {
			refuses(t, strconv.Quote(string(b)), d, a, api.ErrHalt)
			halts++
		}
	}
	if halts < 1000 || halts > 19000 {
		t.Errorf("%d of 20000 can't be", halts)
	}
}

// TestTA1Largest: the largest disk as one area: nothing, one record that fills it, and as many as can be.
func TestTA1Largest(t *testing.T) {
	const size = 4 * api.MaxBytes
	a := tape.Area{At: 0, Len: size}
	if x := opens(t, "noughts", laid(t, noughts(size)), a); x.Room() != size-5 {
		t.Errorf("room %d", x.Room())
	}
	opens(t, "one", laid(t, record(strings.Repeat("a", size-5))), a, strings.Repeat("a", size-5))
	refuses(t, "a byte more", laid(t, head(1, size-4)+noughts(size-5)), a, api.ErrHalt)
	many := strings.Repeat(record(""), size/5) + strings.Repeat("#", size%5)
	x, all, err := tape.Open(laid(t, many), a)
	if err != nil || len(all) != size/5 || x.Len() != size/5 || x.Room() != -1 {
		t.Errorf("many: %d records, %v", len(all), err)
	}
}

package entry_test

import (
	"math"
	"strconv"
	"strings"
	"testing"

	"tollbar/api"
	"tollbar/entry"
)

// on are the bytes of an entry, of its numbers as digits.
func on(index, term, kind, data string) string {
	return "n" + index + ";n" + term + ";n" + kind + ";b" + strconv.Itoa(len(data)) + ":" + data
}

// reads looks at bytes that must be an entry's, and at that its bytes are these.
func reads(t *testing.T, in string, want entry.Entry) {
	t.Helper()
	got, err := entry.Decode([]byte(in))
	if err != nil || told(got) != told(want) {
		t.Errorf("Decode of %q: %s, %v, not %s", short(in), short(told(got)), err, short(told(want)))
	}
	lays(t, want, in)
}

// lays looks at an entry's bytes.
func lays(t *testing.T, e entry.Entry, want string) {
	t.Helper()
	if got := string(entry.Encode(e)); got != want {
		t.Errorf("Encode of %s: %q, not %q", short(told(e)), short(got), short(want))
	}
}

// unread looks at bytes that must be no entry's.
func unread(t *testing.T, what, in string) {
	t.Helper()
	got, err := entry.Decode([]byte(in))
	if err != api.ErrForm || told(got) != told(entry.Entry{}) {
		t.Errorf("Decode, %s: %s, %v, of %q", what, short(told(got)), err, short(in))
	}
}

// TestEN3Bytes: entries that may be, as bytes and back.
func TestEN3Bytes(t *testing.T) {
	reads(t, "n1;n1;n0;b0:", entry.Entry{Index: 1, Term: 1})
	reads(t, "n300;n7;n1;b2:ab", entry.Entry{Index: 300, Term: 7, Kind: entry.Order, Data: []byte("ab")})
	for _, n := range []int{1, 2, 9, 10, 255, 256, 1 << 32, api.MaxIndex - 1, api.MaxIndex} {
		s := strconv.Itoa(n)
		reads(t, on(s, "5", "2", "x"), entry.Entry{Index: n, Term: 5, Kind: entry.Member, Data: []byte("x")})
		reads(t, on("5", s, "2", "x"), entry.Entry{Index: 5, Term: n, Kind: entry.Member, Data: []byte("x")})
	}
	for kind := range 3 {
		reads(t, on("3", "2", strconv.Itoa(kind), "x"), entry.Entry{Index: 3, Term: 2, Kind: kind, Data: []byte("x")})
	}
	for b := range 256 {
		s := string([]byte{byte(b), ';', byte(b)})
		reads(t, on("3", "2", "1", s), entry.Entry{Index: 3, Term: 2, Kind: 1, Data: []byte(s)})
	}
	lays(t, entry.Entry{Index: 1, Term: 1, Data: []byte{}}, "n1;n1;n0;b0:")
}

// TestEN3BytesData: as many bytes as may be, and one more.
func TestEN3BytesData(t *testing.T) {
	for _, n := range []int{0, 1, 9, 10, 4095, 4096} {
		reads(t, on("3", "2", "1", string(data(n))), entry.Entry{Index: 3, Term: 2, Kind: 1, Data: data(n)})
	}
	for _, n := range []int{4097, 4098, 8192, 10000, api.MaxBytes} {
		s := on("3", "2", "1", string(data(n)))
		unread(t, "with too many bytes", s)
		lays(t, entry.Entry{Index: 3, Term: 2, Kind: 1, Data: data(n)}, s)
	}
	for _, bad := range []string{"b", "b:", "b-1:x", "b01:x", "b2:x", "b1;x", "b18446744073709551615:x", "b99999999999999999999:x", "t1:x", "n1;x", "y", "b4097:", "b4096:"} {
		unread(t, "with data of another form", "n3;n2;n1;"+bad)
	}
}

// TestEN3BytesNumbers: numbers that an entry may not have are laid as uint64 has them, and not taken.
func TestEN3BytesNumbers(t *testing.T) {
	for n, s := range map[int]string{
		math.MinInt: "9223372036854775808", -1: "18446744073709551615", -2: "18446744073709551614", -api.MaxIndex: "18446742974197923840",
		0: "0", api.MaxIndex + 1: "1099511627777", api.MaxIndex + 2: "1099511627778", math.MaxInt: "9223372036854775807",
	} {
		lays(t, entry.Entry{Index: n, Term: 2, Kind: 1}, on(s, "2", "1", ""))
		unread(t, "with such an index", on(s, "2", "1", ""))
		lays(t, entry.Entry{Index: 3, Term: n, Kind: 1}, on("3", s, "1", ""))
		unread(t, "with such a term", on("3", s, "1", ""))
		lays(t, entry.Entry{Index: 3, Term: 2, Kind: n}, on("3", "2", s, ""))
		if n != 0 {
			unread(t, "with such a kind", on("3", "2", s, ""))
		}
		lays(t, entry.Entry{Index: n, Term: n, Kind: n, Data: []byte("x")}, on(s, s, s, "x"))
	}
	lays(t, entry.Entry{}, on("0", "0", "0", ""))
	unread(t, "of nothing", on("0", "0", "0", ""))
	for _, kind := range []string{"3", "4", "10", "256", "257", "4294967297"} {
		unread(t, "with such a kind", on("3", "2", kind, "x"))
	}
	for _, s := range []string{"", "-1", "-0", "01", "+1", " 1", "1 ", "a", "1a", "18446744073709551616", "99999999999999999999", "000000000000000000001"} {
		unread(t, "with such an index", on(s, "2", "1", "x"))
		unread(t, "with such a term", on("3", s, "1", "x"))
		unread(t, "with such a kind", on("3", "2", s, "x"))
	}
}

// TestEN3BytesCut: no begin of an entry's bytes is one, nor are they with more behind or ahead.
func TestEN3BytesCut(t *testing.T) {
	for _, e := range []entry.Entry{{Index: 1, Term: 1}, of(7, 3), {Index: api.MaxIndex, Term: 123, Kind: 2, Data: []byte("n1;b2:ab")}, {Index: 12, Term: 3, Data: data(300)}} {
		s := string(entry.Encode(e))
		reads(t, s, e)
		for i := range len(s) {
			unread(t, "cut short", s[:i])
			unread(t, "without its begin", s[i+1:])
		}
		for _, more := range []string{"\x00", " ", ";", ":", "0", "n", "n0;", "n1;", "y", "b0:", "i0;", s} {
			unread(t, "with more behind", s+more)
			unread(t, "with more ahead", more+s)
		}
	}
	if _, err := entry.Decode(nil); err != api.ErrForm {
		t.Errorf("Decode of nil: %v", err)
	}
}

// TestEN3BytesChanged: whatever is read of bytes of which one is another has these bytes.
func TestEN3BytesChanged(t *testing.T) {
	s := on("12", "3", "1", "ab")
	taken := 0
	for i := range len(s) {
		for b := range 256 {
			in := s[:i] + string([]byte{byte(b)}) + s[i+1:]
			e, err := entry.Decode([]byte(in))
			if err == nil {
				taken++
				lays(t, e, in)
			} else if in == s || err != api.ErrForm {
				t.Errorf("Decode of %q: %v", in, err)
			}
		}
	}
	// Index 12 to 92 and 10 to 19, term 1 to 9, kind 0 to 2, both bytes of the data any; each of the others as it is alone.
	if want := 9 + 10 + 9 + 3 + 2*256 + len(s) - 6; taken != want {
		t.Errorf("%d taken, not %d, of %q", taken, want, s)
	}
}

// TestEN3BytesLetters: another letter in the place of each.
func TestEN3BytesLetters(t *testing.T) {
	s := on("12", "3", "1", "ab")
	for i := range len(s) {
		if s[i] != 'n' && s[i] != 'b' || i > strings.Index(s, "b") {
			continue
		}
		for _, letter := range []string{"i", "n", "b", "t", "y", "z", "N", ""} {
			if letter != s[i:i+1] {
				unread(t, "with another letter", s[:i]+letter+s[i+1:])
			}
		}
	}
}

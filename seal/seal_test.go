package seal_test

import (
	"bytes"
	"math/rand"
	"strconv"
	"testing"

	"tollbar/api"
	"tollbar/seal"
)

// byHand lays a kind, bytes, and a sum behind as the chapter's words have them, whatever Seal would say of them.
func byHand(kind byte, b []byte, sum uint32) []byte {
	l := append([]byte{kind}, b...)
	return append(l, byte(sum), byte(sum>>8), byte(sum>>16), byte(sum>>24))
}

// whole are a kind and bytes with the right sum behind.
func whole(kind byte, b []byte) []byte {
	return byHand(kind, b, seal.Sum(append([]byte{kind}, b...)))
}

// sealed is what Seal answers where it must.
func sealed(t *testing.T, kind byte, b []byte) []byte {
	t.Helper()
	s, err := seal.Seal(kind, b)
	if err != nil {
		t.Fatalf("Seal of the kind %d, %d bytes: %v", kind, len(b), err)
	}
	return s
}

// opens looks at bytes that must be opened.
func opens(t *testing.T, name string, in []byte, kind byte, b []byte) {
	t.Helper()
	if k, got, err := seal.Open(in); err != nil || k != kind || !bytes.Equal(got, b) {
		t.Errorf("%s: the kind %d, %d bytes, %v, not the kind %d, %d bytes", name, k, len(got), err, kind, len(b))
	}
}

// refuses looks at bytes that must be refused: with that error, and with zero values beside it.
func refuses(t *testing.T, name string, in []byte, want error) {
	t.Helper()
	if k, b, err := seal.Open(in); err != want || k != 0 || len(b) != 0 {
		t.Errorf("%s: the kind %d, %d bytes, %v, not %v", name, k, len(b), err, want)
	}
}

// TestSL1Seal: the kind, the bytes, and the sum of both, the lowest byte first.
func TestSL1Seal(t *testing.T) {
	cases := []struct {
		kind byte
		b    string
		want string
	}{
		{'1', "23456789", "123456789\x83\x92\x06\xE3"},
		{1, "", "\x01\x52\xD0\x16\xA0"},
		{255, "", "\xFF\x00\x00\x00\xFF"},
		{'a', "bc", "abc\xB7\x3F\x4B\x36"},
		{'m', "ab", "mab\xF2\x8E\x48\x56"},
		{255, "ab", "\xFFab\x36\xD6\xA2\xE2"},
	}
	for _, c := range cases {
		if s := sealed(t, c.kind, []byte(c.b)); string(s) != c.want {
			t.Errorf("the kind %d, %q: %q, not %q", c.kind, c.b, s, c.want)
		}
		opens(t, strconv.Quote(c.want), []byte(c.want), c.kind, []byte(c.b))
	}
	if s := sealed(t, 1, nil); string(s) != "\x01\x52\xD0\x16\xA0" {
		t.Errorf("nil: %q", s)
	}
}

// TestSL1SealKinds: every kind but 0.
func TestSL1SealKinds(t *testing.T) {
	b := []byte("some bytes")
	for kind := 1; kind < 256; kind++ {
		k := byte(kind)
		if s := sealed(t, k, b); !bytes.Equal(s, whole(k, b)) {
			t.Errorf("the kind %d: %q", kind, s)
		}
	}
}

// TestSL1SealErrors: no kind, too many bytes, and which is named first.
func TestSL1SealErrors(t *testing.T) {
	most := make([]byte, api.MaxBytes)
	more := make([]byte, api.MaxBytes+1)
	cases := []struct {
		name string
		kind byte
		b    []byte
		want error
	}{
		{"no kind, nothing", 0, nil, api.ErrArg},
		{"no kind", 0, []byte("ab"), api.ErrArg},
		{"no kind, as many as may be", 0, most, api.ErrArg},
		{"no kind, one too many", 0, more, api.ErrArg},
		{"one too many", 1, more, api.ErrLong},
		{"one too many of the last kind", 255, more, api.ErrLong},
		{"twice too many", 1, make([]byte, 2*api.MaxBytes), api.ErrLong},
	}
	for _, c := range cases {
		if s, err := seal.Seal(c.kind, c.b); err != c.want || len(s) != 0 {
			t.Errorf("%s: %d bytes, %v, not %v", c.name, len(s), err, c.want)
		}
	}
}

// TestSL1SealMost: MaxBytes bytes and one fewer are sealed, and opened.
func TestSL1SealMost(t *testing.T) {
	draw := rand.New(rand.NewSource(1))
	for _, n := range []int{api.MaxBytes - 1, api.MaxBytes} {
		b := drawn(draw, n)
		s := sealed(t, 255, b)
		if !bytes.Equal(s, whole(255, b)) {
			t.Errorf("%d bytes are sealed in another way", n)
		}
		opens(t, "as many as may be", s, 255, b)
	}
}

// TestSL1OpenEnd: fewer than 5 bytes, whatever they are.
func TestSL1OpenEnd(t *testing.T) {
	refuses(t, "nil", nil, api.ErrEnd)
	begin := sealed(t, 7, nil)
	for n := range 5 {
		refuses(t, "noughts", make([]byte, n), api.ErrEnd)
		refuses(t, "a begin of what is sealed", begin[:n], api.ErrEnd)
		refuses(t, "an end of what is sealed", begin[5-n:], api.ErrEnd)
		refuses(t, "bytes of 255", bytes.Repeat([]byte{255}, n), api.ErrEnd)
	}
	opens(t, "5 bytes", begin, 7, nil)
}

// TestSL1OpenErrors: each error, and of several the one that the chapter names first.
func TestSL1OpenErrors(t *testing.T) {
	most := make([]byte, api.MaxBytes)
	more := make([]byte, api.MaxBytes+1)
	right := seal.Sum([]byte("abc"))
	cases := []struct {
		name string
		in   []byte
		want error
	}{
		{"5 noughts", make([]byte, 5), api.ErrSum},
		{"another sum", byHand('a', []byte("bc"), right^1), api.ErrSum},
		{"the sum of the bytes alone", byHand('a', []byte("bc"), seal.Sum([]byte("bc"))), api.ErrSum},
		{"the sum, its bits turned", byHand('a', []byte("bc"), ^right), api.ErrSum},
		{"the sum, the highest byte first", []byte("abc\x36\x4B\x3F\xB7"), api.ErrSum},
		{"no kind, another sum", byHand(0, []byte("bc"), 0), api.ErrSum},
		{"no kind, too long, another sum", byHand(0, more, 1), api.ErrSum},
		{"too long, another sum", byHand(1, more, 1), api.ErrSum},
		{"no kind, nothing", whole(0, nil), api.ErrArg},
		{"no kind", whole(0, []byte("bc")), api.ErrArg},
		{"no kind, as long as may be", whole(0, most), api.ErrArg},
		{"no kind, too long", whole(0, more), api.ErrArg},
		{"too long", whole(1, more), api.ErrLong},
		{"twice too long", whole(255, make([]byte, 2*api.MaxBytes)), api.ErrLong},
	}
	for _, c := range cases {
		refuses(t, c.name, c.in, c.want)
	}
	opens(t, "as long as may be", whole(1, most), 1, most)
	opens(t, "the right sum", byHand('a', []byte("bc"), right), 'a', []byte("bc"))
}

// TestSL1OpenCut: what is sealed with its end cut off, or with a byte more, has not its sum.
func TestSL1OpenCut(t *testing.T) {
	s := sealed(t, 'm', []byte("some bytes"))
	for n := range s {
		want := api.ErrSum
		if n < 5 {
			want = api.ErrEnd
		}
		refuses(t, "cut", s[:n], want)
	}
	for c := range 256 {
		refuses(t, "a byte more behind", append(s[:len(s):len(s)], byte(c)), api.ErrSum)
		refuses(t, "a byte more ahead", append([]byte{byte(c)}, s...), api.ErrSum)
	}
}

// fill overwrites bytes, and the spare room behind them.
func fill(b []byte) {
	b = b[:cap(b)]
	for i := range b {
		b[i] = '#'
	}
}

// TestRule3Memory: no argument is changed or kept, and each answer is new, spare room too.
func TestRule3Memory(t *testing.T) {
	in := []byte("abc and room")
	b := in[:3]
	first, second := sealed(t, 'm', b), sealed(t, 'm', b)
	fill(first)
	if string(in) != "abc and room" {
		t.Errorf("Seal's answer shares with its argument, or Seal changed it: %q", in)
	}
	fill(in)
	if !bytes.Equal(second, whole('m', []byte("abc"))) {
		t.Errorf("Seal's answer shares: %q", second)
	}
	room := append([]byte(nil), second...)
	room = append(room, "room"...)
	_, x, _ := seal.Open(room[:len(second)])
	_, y, _ := seal.Open(room[:len(second)])
	fill(x)
	if !bytes.Equal(room, append(whole('m', []byte("abc")), "room"...)) {
		t.Errorf("Open's answer shares with its argument, or Open changed it: %q", room)
	}
	fill(room)
	if string(y) != "abc" {
		t.Errorf("Open's answer shares: %q", y)
	}
}

package seal_test

import (
	"math/rand"
	"testing"

	"tollbar/api"
	"tollbar/seal"
)

// windowSize is how many bytes that follow one another may be changed.
const windowSize = 4

// kinds are the edges of what a kind may be, and some between.
func kinds() []byte { return []byte{1, 2, 'm', 127, 128, 254, 255} }

// changed looks at what was sealed with some of it changed.
func changed(t *testing.T, s []byte) {
	t.Helper()
	if k, b, err := seal.Open(s); err != api.ErrSum || k != 0 || len(b) != 0 {
		t.Fatalf("%x: the kind %d, %x, %v", s, k, b, err)
	}
}

// TestSL2AsItWas: what is sealed is opened as it was: every kind, every short length.
func TestSL2AsItWas(t *testing.T) {
	draw := rand.New(rand.NewSource(1))
	for kind := 1; kind < 256; kind++ {
		for n := range 40 {
			b := drawn(draw, n)
			opens(t, "sealed", sealed(t, byte(kind), b), byte(kind), b)
		}
	}
	for _, kind := range kinds() {
		opens(t, "nil", sealed(t, kind, nil), kind, nil)
		opens(t, "noughts", sealed(t, kind, make([]byte, 5000)), kind, make([]byte, 5000))
		again := sealed(t, kind, sealed(t, 1, []byte("ab")))
		opens(t, "sealed twice", again, kind, sealed(t, 1, []byte("ab")))
	}
}

// TestSL2OneByte: each byte of what is sealed, the kind and the sum among them, as each other one.
func TestSL2OneByte(t *testing.T) {
	for _, text := range []string{"", "a", "some bytes", "\x00\x00\x00\x00\x00\x00"} {
		for _, kind := range kinds() {
			s := sealed(t, kind, []byte(text))
			for i := range s {
				for flip := 1; flip < 256; flip++ {
					s[i] ^= byte(flip)
					changed(t, s)
					s[i] ^= byte(flip)
				}
			}
		}
	}
}

// TestSL2TwoBytes: each two neighbours as each other two.
func TestSL2TwoBytes(t *testing.T) {
	for _, text := range []string{"", "abc"} {
		s := sealed(t, 'm', []byte(text))
		for i := range len(s) - 1 {
			for flip := 1; flip < 1<<16; flip++ {
				s[i] ^= byte(flip)
				s[i+1] ^= byte(flip >> 8)
				changed(t, s)
				s[i] ^= byte(flip)
				s[i+1] ^= byte(flip >> 8)
			}
		}
	}
}

// TestSL2FourBytes: drawn changes within each four bytes that follow one another.
func TestSL2FourBytes(t *testing.T) {
	draw := rand.New(rand.NewSource(2))
	for n := range 30 {
		s := sealed(t, kinds()[n%len(kinds())], drawn(draw, n))
		for from := range len(s) - windowSize + 1 {
			for range 200 {
				flip := draw.Uint32() >> draw.Intn(32)
				if flip == 0 {
					continue
				}
				turn(s[from:], flip)
				changed(t, s)
				turn(s[from:], flip)
			}
		}
	}
}

// turn turns bits of the first four bytes.
func turn(b []byte, flip uint32) {
	for i := range windowSize {
		b[i] ^= byte(flip >> (8 * i))
	}
}

// TestSL2KindGone: the kind changed to 0, alone and with those behind it, is found by the sum, not by the kind.
func TestSL2KindGone(t *testing.T) {
	for kind := 1; kind < 256; kind++ {
		for _, text := range []string{"", "abc"} {
			s := sealed(t, byte(kind), []byte(text))
			for n := range windowSize {
				s[n] = 0
				changed(t, s)
			}
		}
	}
}

// off is by which bits the sum at the end differs from that of the bytes ahead of it.
func off(b []byte) uint32 {
	end := len(b) - windowSize
	var have uint32
	for i, c := range b[end:] {
		have |= uint32(c) << (8 * i)
	}
	return have ^ seal.Sum(b[:end])
}

// TestSL2Adds: by which bits a change puts the sum off hangs on the change alone, and two changes at once put it off by both. On this TestSL2EveryChange stands.
func TestSL2Adds(t *testing.T) {
	draw := rand.New(rand.NewSource(3))
	for range 2000 {
		n := windowSize + 1 + draw.Intn(40)
		one, other, b := drawn(draw, n), drawn(draw, n), drawn(draw, n)
		both := make([]byte, n)
		for i := range both {
			both[i] = b[i] ^ one[i] ^ other[i]
			one[i] ^= b[i]
			other[i] ^= b[i]
		}
		if off(both)^off(one)^off(other)^off(b) != 0 {
			t.Fatalf("%x and %x do not add to %x", one, other, both)
		}
	}
}

// TestSL2EveryChange: none of the 2^32 changes within four bytes leaves the sum right: the 32 single bits put it off in ways none of which the others make together.
func TestSL2EveryChange(t *testing.T) {
	for _, n := range []int{0, 1, 2, 3, 4, 5, 17, 100, 1000} {
		s := sealed(t, 'm', make([]byte, n))
		for from := range len(s) - windowSize + 1 {
			var known [32]uint32 // by the highest bit
			for bit := range 32 {
				turn(s[from:], 1<<bit)
				rest := off(s)
				turn(s[from:], 1<<bit)
				if !learn(&known, rest) {
					t.Fatalf("%d bytes, four from %d on: the bit %d is what others make", n, from, bit)
				}
			}
		}
	}
}

// learn adds a number to those known, and tells whether it is none that they make by xor.
func learn(known *[32]uint32, n uint32) bool {
	for high := 31; high >= 0; high-- {
		if n>>high&1 == 0 {
			continue
		}
		if known[high] == 0 {
			known[high] = n
			return true
		}
		n ^= known[high]
	}
	return false
}

// TestSL2Long: the longest that may be sealed, changed at its begin, its end, and between.
func TestSL2Long(t *testing.T) {
	draw := rand.New(rand.NewSource(4))
	s := sealed(t, 'm', drawn(draw, api.MaxBytes))
	for _, from := range []int{0, 1, 4095, len(s) / 2, len(s) - 8, len(s) - 6, len(s) - 4} {
		for _, flip := range []uint32{1, 1 << 31, 0xFFFFFFFF, 0x82F63B78, draw.Uint32() | 1} {
			turn(s[from:], flip)
			if _, _, err := seal.Open(s); err != api.ErrSum {
				t.Errorf("from %d on %08x: %v", from, flip, err)
			}
			turn(s[from:], flip)
		}
	}
	if _, _, err := seal.Open(s); err != nil {
		t.Errorf("as it was: %v", err)
	}
}

package seal_test

import (
	"bytes"
	"math"
	"math/rand"
	"strings"
	"testing"

	"tollbar/seal"
)

// drawn are so many bytes, drawn.
func drawn(draw *rand.Rand, n int) []byte {
	b := make([]byte, n)
	draw.Read(b)
	return b
}

// divided is the sum of bytes by another way than package seal: the remainder
// of their bits, as a polynomial, by that of CRC-32C.
func divided(b []byte) uint32 {
	const polynomial uint32 = 0x1EDC6F41 // without its power 32
	var bits []byte
	for _, c := range b {
		for i := range 8 {
			bits = append(bits, c>>i&1)
		}
	}
	bits = append(bits, make([]byte, 32)...)
	for i := range 32 {
		bits[i] ^= 1
	}
	for i := range len(bits) - 32 {
		if bits[i] == 0 {
			continue
		}
		for power := range 32 {
			bits[i+32-power] ^= byte(polynomial >> power & 1)
		}
	}
	var sum uint32
	for i, bit := range bits[len(bits)-32:] {
		sum |= uint32(1^bit) << i
	}
	return sum
}

// TestSL1Known: sums that are known: the document's example, and those of RFC 3720.
func TestSL1Known(t *testing.T) {
	up, down := make([]byte, 32), make([]byte, 32)
	for i := range up {
		up[i], down[i] = byte(i), byte(31-i)
	}
	cases := []struct {
		name string
		b    []byte
		want uint32
	}{
		{"the example", []byte("123456789"), 0xE3069283},
		{"nil", nil, 0},
		{"nothing", []byte{}, 0},
		{"a", []byte("a"), 0xC1D04330},
		{"abc", []byte("abc"), 0x364B3FB7},
		{"a byte of 0", []byte{0}, 0x527D5351},
		{"a byte of 255", []byte{255}, 0xFF000000},
		{"32 bytes of 0", make([]byte, 32), 0x8A9136AA},
		{"32 bytes of 255", bytes.Repeat([]byte{255}, 32), 0x62A8AB43},
		{"0 to 31", up, 0x46DD794E},
		{"31 to 0", down, 0x113FDB5C},
	}
	for _, c := range cases {
		if n := seal.Sum(c.b); n != c.want {
			t.Errorf("%s: %08X, not %08X", c.name, n, c.want)
		}
		if n := seal.More(0, c.b); n != c.want {
			t.Errorf("%s behind nothing: %08X, not %08X", c.name, n, c.want)
		}
	}
}

// TestSL1Divided: sums as a division tells them: of every byte alone, and of any bytes.
func TestSL1Divided(t *testing.T) {
	look := func(b []byte) {
		if got, want := seal.Sum(b), divided(b); got != want {
			t.Fatalf("%x: %08X, not %08X", b, got, want)
		}
	}
	for c := range 256 {
		look([]byte{byte(c)})
	}
	draw := rand.New(rand.NewSource(1))
	for n := range 200 {
		look(make([]byte, n))
		look(drawn(draw, n))
	}
}

// TestSL1More: the sum of all, wherever what is ahead ends.
func TestSL1More(t *testing.T) {
	draw := rand.New(rand.NewSource(2))
	for n := range 80 {
		b := drawn(draw, n)
		want := seal.Sum(b)
		for i := range n + 1 {
			ahead := seal.Sum(b[:i])
			if got := seal.More(ahead, b[i:]); got != want {
				t.Fatalf("%x behind %x: %08X, not %08X", b[i:], b[:i], got, want)
			}
			j := i + draw.Intn(n+1-i)
			if got := seal.More(seal.More(ahead, b[i:j]), b[j:]); got != want {
				t.Fatalf("%x in three pieces, to %d and to %d: %08X, not %08X", b, i, j, got, want)
			}
		}
	}
}

// TestSL1MoreByOne: byte behind byte, from nothing on.
func TestSL1MoreByOne(t *testing.T) {
	b := []byte("123456789")
	var sum uint32
	for i := range b {
		sum = seal.More(sum, b[i:i+1])
		if want := seal.Sum(b[:i+1]); sum != want {
			t.Errorf("%q: %08X, not %08X", b[:i+1], sum, want)
		}
	}
	if sum != 0xE3069283 {
		t.Errorf("all: %08X", sum)
	}
}

// TestSL1MoreOfNothing: nothing behind leaves each sum as it is, the bounds of the numbers among them.
func TestSL1MoreOfNothing(t *testing.T) {
	for _, sum := range []uint32{0, 1, 0x7FFFFFFF, 0x80000000, 0x82F63B78, math.MaxUint32 - 1, math.MaxUint32} {
		if a, b := seal.More(sum, nil), seal.More(sum, []byte{}); a != sum || b != sum {
			t.Errorf("%08X: %08X, %08X", sum, a, b)
		}
	}
}

// TestSL1SumLong: bytes beyond what may be sealed have a sum too.
func TestSL1SumLong(t *testing.T) {
	b := []byte(strings.Repeat("123456789", 150000))
	half := len(b) / 2
	if a, c := seal.Sum(b), seal.More(seal.Sum(b[:half]), b[half:]); a != c {
		t.Errorf("at once %08X, in halves %08X", a, c)
	}
}

// TestRule3Sums: summing changes no argument, and answers the same each time.
func TestRule3Sums(t *testing.T) {
	b := []byte("123456789")
	for range 2 {
		if a, c := seal.Sum(b), seal.More(0x364B3FB7, b); a != 0xE3069283 || c != seal.Sum([]byte("abc123456789")) {
			t.Errorf("%08X, %08X", a, c)
		}
		if string(b) != "123456789" {
			t.Errorf("the argument is now %q", b)
		}
	}
}

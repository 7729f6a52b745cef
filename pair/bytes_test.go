package pair_test

import (
	"bytes"
	"math/rand"
	"regexp"
	"strconv"
	"testing"

	"tollbar/api"
	"tollbar/pack"
	"tollbar/pair"
)

// onBytes are two numbers as bytes, whatever package pair says of them.
func onBytes(a, b int) string { return "n" + strconv.Itoa(a) + ";n" + strconv.Itoa(b) + ";" }

// decodes looks at bytes that must be an amount's.
func decodes(t *testing.T, in string, want complex128) {
	t.Helper()
	got, err := pair.Decode([]byte(in))
	is(t, strconv.Quote(in), got, err, want)
}

// refuses looks at bytes that must be none's.
func refuses(t *testing.T, in string) {
	t.Helper()
	got, err := pair.Decode([]byte(in))
	fails(t, strconv.Quote(in), got, err, api.ErrForm)
}

// TestPA3Put: both parts behind any bytes, behind nothing too; no amount lays nothing.
func TestPA3Put(t *testing.T) {
	aheads := []string{"", "a", "n1;", "n3;n4;", "\x00\xff", string(make([]byte, 100))}
	for _, ahead := range aheads {
		for _, a := range goodParts() {
			for _, b := range goodParts() {
				if got := pair.Put([]byte(ahead), c(a, b)); string(got) != ahead+onBytes(a, b) {
					t.Fatalf("Put of %d/%d behind %q: %q", a, b, ahead, got)
				}
			}
		}
		for _, x := range nones() {
			if got := pair.Put([]byte(ahead), x); string(got) != ahead {
				t.Fatalf("Put of %v behind %q: %q", x, ahead, got)
			}
		}
	}
	if got := pair.Put(nil, 3+4i); string(got) != "n3;n4;" {
		t.Errorf("Put behind nil: %q", got)
	}
	if got := pair.Put(nil, -1); len(got) != 0 {
		t.Errorf("Put of none behind nil: %q", got)
	}
	if got := pair.Put(pair.Put(nil, 1+2i), 3+4i); string(got) != "n1;n2;n3;n4;" {
		t.Errorf("Put behind Put: %q", got)
	}
}

// TestPA3Decode: each amount is made of its bytes again, and its bytes of it; no begin of them is one, nor are they with more behind or ahead.
func TestPA3Decode(t *testing.T) {
	for _, x := range goods() {
		in := string(pair.Put(nil, x))
		decodes(t, in, x)
		for n := range in {
			refuses(t, in[:n])
		}
		for _, more := range []string{"\x00", " ", ";", "0", "n", "n1;", "y", "z", "t0:", in} {
			refuses(t, in+more)
			refuses(t, more+in)
		}
	}
	got, err := pair.Decode(nil)
	fails(t, "nil", got, err, api.ErrForm)
}

// TestPA3DecodeErrors: whatever package pack says of bytes, ErrForm is what is answered.
func TestPA3DecodeErrors(t *testing.T) {
	numbers := []string{
		"1099511627777", "1099511627778", "2199023255552", "9007199254740993", "9223372036854775807", "9223372036854775808",
		"18446744073709551615", "18446744073709551616", "18446744073709551617", "99999999999999999999", "100000000000000000000",
		"", "00", "01", "-1", "-0", "+1", " 1", "1 ", "1.0", "1e3", "0x1", "1_0", "a", ":",
	}
	for _, n := range numbers {
		refuses(t, "n"+n+";n1;")
		refuses(t, "n1;n"+n+";")
		refuses(t, "n"+n+";n"+n+";")
	}
	for _, in := range []string{"3/4", "n3;i4;", "i3;n4;", "i3;i4;", "n3:n4:", "n3;y", "t1:3t1:4", "b6:n3;n4;", "N3;n4;", "n3n4;", "n3;;n4;"} {
		refuses(t, in)
	}
	decodes(t, "n1099511627776;n1099511627776;", c(api.MaxAmount, api.MaxAmount))
	decodes(t, "n1099511627775;n0;", c(api.MaxAmount-1, 0))
}

// form is what short bytes of an amount look like.
var form = regexp.MustCompile(`^n(0|[1-9][0-9]*);n(0|[1-9][0-9]*);$`)

// TestPA3DecodeAllShort: of all short bytes of some letters those that have the form are an amount's, and laid again they are the same.
func TestPA3DecodeAllShort(t *testing.T) {
	const letters = "ni019;-:"
	found := 0
	var look func(b []byte)
	look = func(b []byte) {
		x, err := pair.Decode(b)
		if whole := form.Match(b); whole {
			found++
			if err != nil || !bytes.Equal(pair.Put(nil, x), b) {
				t.Fatalf("%q: %v, %v", b, x, err)
			}
		} else {
			fails(t, strconv.Quote(string(b)), x, err, api.ErrForm)
		}
		if len(b) == 7 {
			return
		}
		for i := range len(letters) {
			look(append(b[:len(b):len(b)], letters[i]))
		}
	}
	look([]byte("n"))
	if found == 0 {
		t.Error("none had the form")
	}
}

// TestPA3DecodeSpoilt: of an amount's bytes with one changed what is still one's is laid again as it is.
func TestPA3DecodeSpoilt(t *testing.T) {
	draw := rand.New(rand.NewSource(1))
	for range 5000 {
		b := pair.Put(nil, draws(draw, 1, 1<<(1+draw.Intn(40)))[0])
		b[draw.Intn(len(b))] = "niyztb0123456789-;:"[draw.Intn(19)]
		if x, err := pair.Decode(b); err == nil && !bytes.Equal(pair.Put(nil, x), b) {
			t.Fatalf("%q laid again: %q", b, pair.Put(nil, x))
		}
	}
}

// TestPA3Pack: what package pack takes off is what Put laid.
func TestPA3Pack(t *testing.T) {
	r := pack.Read(pair.Put(pack.New().Text("ab").Done(), 3+4i))
	if s, a, b := r.Text(2), r.Uint(3), r.Uint(4); s != "ab" || a != 3 || b != 4 || r.Done() != nil {
		t.Errorf("%q, %d, %d, %v", s, a, b, r.Done())
	}
}

// fill overwrites bytes, and the spare room behind them.
func fill(b []byte) {
	b = b[:cap(b)]
	for i := range b {
		b[i] = '#'
	}
}

// TestRule3Memory: bytes ahead, with spare room behind, stay as they are and are not shared, be something laid behind or not; nor are those that are decoded.
func TestRule3Memory(t *testing.T) {
	const text = "abc and room, more than all that is laid"
	laid := map[complex128]string{3 + 4i: onBytes(3, 4), c(api.MaxAmount, 0): onBytes(api.MaxAmount, 0), 0.5: "", -1: ""}
	for x, behind := range laid {
		for _, n := range []int{0, 1, 3, len(text)} {
			in := []byte(text)
			first, second := pair.Put(in[:n], x), pair.Put(in[:n], x)
			fill(first)
			if string(in) != text {
				t.Fatalf("Put of %v behind %d: its argument is now %q", x, n, in)
			}
			fill(in)
			if string(second) != text[:n]+behind {
				t.Fatalf("Put of %v behind %d shares: %q", x, n, second)
			}
		}
	}
	in := []byte("n3;n4; and room")
	got, err := pair.Decode(in[:6])
	is(t, "Decode", got, err, 3+4i)
	if string(in) != "n3;n4; and room" {
		t.Errorf("Decode changed its argument: %q", in)
	}
}

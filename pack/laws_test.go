package pack_test

import (
	"bytes"
	"math"
	"math/rand"
	"regexp"
	"strings"
	"testing"

	"tollbar/api"
	"tollbar/pack"
)

// thing is something that can be laid: its letter, and its value.
type thing struct {
	letter byte
	n      uint64
	i      int
	s      string
}

// lay lays a thing behind.
func lay(w *pack.Writer, x thing) {
	switch x.letter {
	case 'n':
		w.Uint(x.n)
	case 'i':
		w.Int(x.i)
	case 'y', 'z':
		w.Bool(x.letter == 'y')
	case 't':
		w.Text(x.s)
	case 'b':
		w.Bytes([]byte(x.s))
	}
}

// laid are things as bytes.
func laid(l []thing) []byte {
	w := pack.New()
	for _, x := range l {
		lay(w, x)
	}
	return w.Done()
}

// take takes a thing of a letter off.
func take(r *pack.Reader, letter byte) thing {
	x := thing{letter: letter}
	switch letter {
	case 'n':
		x.n = r.Uint(math.MaxUint64)
	case 'i':
		x.i = r.Int()
	case 'y', 'z':
		x.letter = 'z'
		if r.Bool() {
			x.letter = 'y'
		}
	case 't':
		x.s = r.Text(math.MaxInt)
	case 'b':
		x.s = string(r.Bytes(math.MaxInt))
	}
	return x
}

// taken are all things that stand in bytes, and whether they are taken off whole.
func taken(b []byte) ([]thing, bool) {
	r := pack.Read(b)
	var l []thing
	for range b {
		if k := r.Kind(); k != 0 {
			l = append(l, take(r, k))
		}
	}
	return l, r.Done() == nil
}

// many is how many things stand at the begin of bytes.
func many(b []byte) int {
	r := pack.Read(b)
	n := 0
	for ahead := len(b); ahead > 0; ahead = r.Left() {
		take(r, r.Kind())
		if r.Left() == ahead {
			break
		}
		n++
	}
	return n
}

// anyThing draws a thing.
func anyThing(draw *rand.Rand) thing {
	x := thing{letter: "niyztb"[draw.Intn(6)]}
	switch x.letter {
	case 'n':
		x.n = draw.Uint64() >> draw.Intn(64)
	case 'i':
		x.i = int(draw.Uint64()) >> draw.Intn(64)
	case 't', 'b':
		b := make([]byte, draw.Intn(14))
		for i := range b {
			b[i] = "niyztb0123;:-\x00\xff"[draw.Intn(15)]
		}
		x.s = string(b)
	}
	return x
}

// things draws some.
func things(draw *rand.Rand, most int) []thing {
	l := make([]thing, draw.Intn(most+1))
	for i := range l {
		l[i] = anyThing(draw)
	}
	return l
}

// same tells whether two lists are of the same things.
func same(a, b []thing) bool {
	if len(a) != len(b) {
		return false
	}
	for i := range a {
		if a[i] != b[i] {
			return false
		}
	}
	return true
}

// TestPK5AsItWas: what is laid is taken off as it was, by the letters it has.
func TestPK5AsItWas(t *testing.T) {
	draw := rand.New(rand.NewSource(1))
	for range 3000 {
		l := things(draw, 8)
		b := laid(l)
		got, whole := taken(b)
		if !whole || !same(got, l) {
			t.Fatalf("%q: %v, %v, not %v", b, got, whole, l)
		}
		if !bytes.Equal(laid(got), b) {
			t.Fatalf("%q laid again: %q", b, laid(got))
		}
	}
}

// TestPK5Numbers: every number about a power of two or of ten, and about the bounds.
func TestPK5Numbers(t *testing.T) {
	look := func(n uint64) {
		r := pack.Read(pack.New().Uint(n).Int(int(n)).Int(-int(n)).Done())
		if u, i, j := r.Uint(n), r.Int(), r.Int(); u != n || i != int(n) || j != -int(n) || r.Done() != nil {
			t.Errorf("%d: %d, %d, %d, %v", n, u, i, j, r.Done())
		}
	}
	for step := range uint64(5) {
		for shift := range 64 {
			look(1<<shift + step - 2)
		}
		for ten := uint64(1); ten <= 1e18; ten *= 10 {
			look(ten + step - 2)
		}
	}
}

// TestPK5NothingElse: what is laid as one thing is taken off by no call of another letter.
func TestPK5NothingElse(t *testing.T) {
	draw := rand.New(rand.NewSource(2))
	for range 500 {
		x := anyThing(draw)
		in := string(laid([]thing{x}))
		for _, c := range wide() {
			if strings.IndexByte(c.letters, x.letter) < 0 {
				fails(t, in, c, api.ErrForm)
			}
		}
	}
}

// TestPK5Begins: no begin of what is laid, but all of it, is so many things.
func TestPK5Begins(t *testing.T) {
	draw := rand.New(rand.NewSource(3))
	for range 400 {
		l := append(things(draw, 5), anyThing(draw))
		b := laid(l)
		for n := range len(b) {
			r := pack.Read(b[:n])
			for _, x := range l {
				take(r, x.letter)
			}
			if r.Done() != api.ErrEnd {
				t.Fatalf("%q of %q: %v", b[:n], b, r.Done())
			}
			if k := many(b[:n]); k >= len(l) {
				t.Fatalf("%q of %q is %d things", b[:n], b, k)
			}
		}
		if k := many(b); k != len(l) {
			t.Fatalf("%q is %d things, not %d", b, k, len(l))
		}
	}
}

// form is what a thing without a length looks like.
var form = regexp.MustCompile(`^(n(0|[1-9][0-9]*);|i(0|-?[1-9][0-9]*);|y|z)`)

// head is what stands ahead of a text and of bytes.
var head = regexp.MustCompile(`^[tb](0|[1-9]):`)

// well tells whether short bytes are things as the chapter's words have them, by another way than package pack.
func well(b []byte) bool {
	for len(b) > 0 {
		if m := form.Find(b); m != nil {
			b = b[len(m):]
			continue
		}
		m := head.Find(b)
		if m == nil {
			return false
		}
		n := len(m) + int(m[1]-'0')
		if n > len(b) {
			return false
		}
		b = b[n:]
	}
	return true
}

// TestPK5AllShort: of all short bytes of some letters those are taken off whole that have the form, and laid again they are the same.
func TestPK5AllShort(t *testing.T) {
	const letters = "niyztb012-;:x"
	var look func(b []byte)
	look = func(b []byte) {
		l, whole := taken(b)
		if whole != well(b) {
			t.Fatalf("%q is whole: %v", b, whole)
		}
		if whole && !bytes.Equal(laid(l), b) {
			t.Fatalf("%q laid again: %q", b, laid(l))
		}
		if len(b) == 5 {
			return
		}
		for i := range len(letters) {
			look(append(b[:len(b):len(b)], letters[i]))
		}
	}
	look(nil)
}

// TestPK5Spoilt: of things with a byte changed what is still whole is laid again as it is.
func TestPK5Spoilt(t *testing.T) {
	draw := rand.New(rand.NewSource(4))
	for range 5000 {
		b := laid(append(things(draw, 4), anyThing(draw)))
		b[draw.Intn(len(b))] = "niyztb0123456789-;:"[draw.Intn(19)]
		if l, whole := taken(b); whole && !bytes.Equal(laid(l), b) {
			t.Fatalf("%q laid again: %q", b, laid(l))
		}
	}
}

// TestRule4Same: the same calls answer the same, however often.
func TestRule4Same(t *testing.T) {
	draw := rand.New(rand.NewSource(5))
	for range 100 {
		l := things(draw, 6)
		if !bytes.Equal(laid(l), laid(l)) {
			t.Fatalf("%v is laid in two ways", l)
		}
		b := laid(l)
		x, _ := taken(b)
		y, _ := taken(b)
		if !same(x, y) {
			t.Fatalf("%q is taken off in two ways", b)
		}
	}
}

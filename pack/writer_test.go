package pack_test

import (
	"math"
	"strconv"
	"testing"

	"tollbar/pack"
)

// TestPK1Lays: each thing as the words of the chapter tell it.
func TestPK1Lays(t *testing.T) {
	cases := []struct {
		name string
		w    *pack.Writer
		want string
	}{
		{"nothing", pack.New(), ""},
		{"uint 0", pack.New().Uint(0), "n0;"},
		{"uint 9", pack.New().Uint(9), "n9;"},
		{"uint 10", pack.New().Uint(10), "n10;"},
		{"uint 2^63", pack.New().Uint(1 << 63), "n9223372036854775808;"},
		{"uint 2^64-1", pack.New().Uint(math.MaxUint64), "n18446744073709551615;"},
		{"int 0", pack.New().Int(0), "i0;"},
		{"int 1", pack.New().Int(1), "i1;"},
		{"int -1", pack.New().Int(-1), "i-1;"},
		{"int -120", pack.New().Int(-120), "i-120;"},
		{"greatest int", pack.New().Int(math.MaxInt), "i" + strconv.Itoa(math.MaxInt) + ";"},
		{"least int", pack.New().Int(math.MinInt), "i" + strconv.Itoa(math.MinInt) + ";"},
		{"true", pack.New().Bool(true), "y"},
		{"false", pack.New().Bool(false), "z"},
		{"empty text", pack.New().Text(""), "t0:"},
		{"text", pack.New().Text("ab"), "t2:ab"},
		{"text of runes, by bytes", pack.New().Text("é€"), "t5:é€"},
		{"text of any bytes", pack.New().Text("\x00:;\xff0"), "t5:\x00:;\xff0"},
		{"nil bytes", pack.New().Bytes(nil), "b0:"},
		{"empty bytes", pack.New().Bytes([]byte{}), "b0:"},
		{"bytes", pack.New().Bytes([]byte("n1;y")), "b4:n1;y"},
		{"ten bytes", pack.New().Bytes(make([]byte, 10)), "b10:\x00\x00\x00\x00\x00\x00\x00\x00\x00\x00"},
		{"the example", pack.New().Uint(300).Bool(true).Text("ab"), "n300;yt2:ab"},
		{"all behind one another", pack.New().Int(-5).Bytes([]byte{1}).Bool(false).Text("").Uint(7), "i-5;b1:\x01zt0:n7;"},
	}
	for _, c := range cases {
		if s := string(c.w.Done()); s != c.want {
			t.Errorf("%s: %q, not %q", c.name, s, c.want)
		}
	}
}

// TestPK1Itself: each call answers the writer that it was called on.
func TestPK1Itself(t *testing.T) {
	w := pack.New()
	if w == nil {
		t.Fatal("New is nil")
	}
	for i, x := range []*pack.Writer{w.Uint(1), w.Int(1), w.Bool(true), w.Text("a"), w.Bytes([]byte{'b'})} {
		if x != w {
			t.Errorf("call %d answers another writer", i)
		}
	}
	if s := string(w.Done()); s != "n1;i1;yt1:ab1:b" {
		t.Errorf("Done: %q", s)
	}
}

// TestPK1Own: a writer has nothing of another one.
func TestPK1Own(t *testing.T) {
	a, b := pack.New(), pack.New()
	a.Uint(1)
	if len(b.Done()) != 0 {
		t.Errorf("the other writer has %q", b.Done())
	}
}

// TestPK1NilWriter: it stays nil, and has nothing.
func TestPK1NilWriter(t *testing.T) {
	var w *pack.Writer
	for i, x := range []*pack.Writer{w.Uint(1), w.Int(1), w.Bool(true), w.Text("a"), w.Bytes([]byte{'b'})} {
		if x != nil {
			t.Errorf("call %d answers a writer", i)
		}
	}
	if b := w.Uint(1).Text("a").Done(); len(b) != 0 {
		t.Errorf("Done: %q", b)
	}
}

// TestRule3WriterMemory: what is handed in is not kept or changed, and each answer of Done is new, spare room too.
func TestRule3WriterMemory(t *testing.T) {
	in := []byte("abc")
	w := pack.New().Bytes(in)
	if string(in) != "abc" {
		t.Errorf("Bytes changed its argument: %q", in)
	}
	in[0] = 'x'
	first, second := w.Done(), w.Done()
	if string(first) != "b3:abc" {
		t.Errorf("Done hangs on the argument: %q", first)
	}
	fill(first)
	if string(second) != "b3:abc" {
		t.Errorf("two answers of Done share: %q", second)
	}
	w.Uint(1)
	fill(second)
	third := w.Done()
	if string(third) != "b3:abcn1;" {
		t.Errorf("an answer and the writer share: %q", third)
	}
	w.Text("more")
	if string(third) != "b3:abcn1;" {
		t.Errorf("an answer changed later: %q", third)
	}
}

// fill overwrites bytes, and the spare room behind them.
func fill(b []byte) {
	b = b[:cap(b)]
	for i := range b {
		b[i] = '#'
	}
}

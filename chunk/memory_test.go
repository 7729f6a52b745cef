package chunk_test

import (
	"bytes"
	"fmt"
	"slices"
	"testing"

	"tollbar/api"
	"tollbar/chunk"
)

// roomy is bytes with spare room behind them, in which no noughts stand.
func roomy(b []byte) []byte {
	own := append(make([]byte, 0, len(b)+64), b...)
	for i := range own[len(b):cap(own)] {
		own[len(b):cap(own)][i] = '~'
	}
	return own
}

// all is all of some bytes, their spare room too.
func all(b []byte) []byte { return b[:cap(b)] }

// spoil writes over all of some bytes, their spare room too.
func spoil(b []byte) {
	for i := range all(b) {
		all(b)[i] = '!'
	}
}

// cuts are texts with places and sizes of which Cut answers something, and of which it does not.
func cuts() []struct {
	n, off, size int
} {
	return []struct{ n, off, size int }{
		{0, 0, 1}, {0, 0, api.MaxBytes}, {1, 0, 1}, {5, 0, 2}, {5, 2, 2}, {5, 4, 2}, {5, 0, 5}, {5, 0, 6}, {5, 1, api.MaxBytes}, {3000, 1024, 1024},
		{0, 1, 1}, {5, 5, 2}, {5, -1, 2}, {5, 6, 2}, {5, 0, 0}, {5, 2, api.MaxBytes + 1},
	}
}

// TestRule3Cut: a piece shares nothing with its text, nor with another piece; a text is not changed, the room behind it neither.
func TestRule3Cut(t *testing.T) {
	for _, c := range cuts() {
		what := fmt.Sprintf("%d bytes at %d, by %d", c.n, c.off, c.size)
		text := roomy(writing(c.n))
		before := slices.Clone(all(text))
		first, _, _ := chunk.Cut(text, c.off, c.size)
		second, _, _ := chunk.Cut(text, c.off, c.size)
		chunk.Pieces(text, c.size)
		want := slices.Clone(first)
		if !bytes.Equal(second, want) {
			t.Errorf("%s: %s, then %s", what, short(want), short(second))
		}
		spoil(second)
		if !bytes.Equal(all(text), before) {
			t.Errorf("%s: the text is %s, not %s", what, short(all(text)), short(before))
		}
		spoil(text)
		if !bytes.Equal(first, want) {
			t.Errorf("%s, behind a change of all else: %s, not %s", what, short(first), short(want))
		}
	}
}

// handed is what Put is handed.
type handed struct {
	box      chunk.Box
	key, off int
	piece    []byte
	last     bool
}

// puts are such of which a piece is taken, at 0 and behind others, the last one and another, and of which it is not.
func puts() []handed {
	var l []handed
	for _, have := range []int{0, 1, 5, 600} {
		for _, piece := range []int{0, 1, 7, 600} {
			for _, off := range []int{0, have, have + 1, -1} {
				for _, key := range []int{3, 4} {
					for _, last := range []bool{false, true} {
						l = append(l, handed{chunk.Box{Key: 3, Have: writing(have)}, key, off, writing(piece), last})
					}
				}
			}
		}
	}
	return append(l,
		handed{chunk.Box{Key: 3, Have: writing(5)}, 3, 5, writing(api.MaxBytes), true},
		handed{chunk.Box{Key: 3, Have: writing(5)}, 3, 0, writing(api.MaxBytes + 1), true},
		handed{chunk.Box{Key: 3, Have: writing(5)}, 3, 0, writing(api.MaxBytes), false},
	)
}

// do is what Put tells of it.
func (h handed) do() told { return put(h.box, h.key, h.off, h.piece, h.last) }

// name tells it.
func (h handed) name() string {
	return fmt.Sprintf("%d bytes at %d of %d's %d, under %d, %v", len(h.piece), h.off, h.box.Key, len(h.box.Have), h.key, h.last)
}

// copied is the same told, in memory of its own.
func (a told) copied() told {
	a.box.Have, a.text = slices.Clone(a.box.Have), slices.Clone(a.text)
	return a
}

// TestRule3Put: neither the box nor the text that are told share anything with the box and the piece that are handed in, or with those of another call; these are not changed, the room behind them neither.
func TestRule3Put(t *testing.T) {
	for _, h := range puts() {
		what := h.name()
		h.box.Have, h.piece = roomy(h.box.Have), roomy(h.piece)
		have, piece := slices.Clone(all(h.box.Have)), slices.Clone(all(h.piece))
		first, second := h.do(), h.do()
		want := first.copied()
		isTold(t, what+", again", second, want)
		spoil(second.box.Have)
		spoil(second.text)
		if !bytes.Equal(all(h.box.Have), have) || !bytes.Equal(all(h.piece), piece) {
			t.Errorf("%s: what was handed in is %s, %s", what, short(all(h.box.Have)), short(all(h.piece)))
		}
		spoil(h.box.Have)
		spoil(h.piece)
		isTold(t, what+", behind a change of all else", first, want)
	}
}

// TestRule3Apart: the box and the text that are told share nothing.
func TestRule3Apart(t *testing.T) {
	for _, h := range puts() {
		for _, both := range []func(a told) ([]byte, []byte){
			func(a told) ([]byte, []byte) { return a.box.Have, a.text },
			func(a told) ([]byte, []byte) { return a.text, a.box.Have },
		} {
			one, other := both(h.do())
			want := slices.Clone(other)
			spoil(one)
			if !bytes.Equal(other, want) {
				t.Errorf("%s: %s, not %s", h.name(), short(other), short(want))
			}
		}
	}
}

// TestRule3Same: a piece that lies in the box itself, or in the room behind it, is taken as any other one.
func TestRule3Same(t *testing.T) {
	for _, last := range []bool{false, true} {
		room := []byte("abcdefgh")
		b := chunk.Box{Key: 3, Have: room[:5]}
		for name, piece := range map[string][]byte{"itself": b.Have, "its begin": b.Have[:2], "its end": b.Have[3:], "the room": room[5:], "both": room[2:7], "all": room} {
			for _, off := range []int{0, 5, 4} {
				h := handed{b, 3, off, piece, last}
				want := ruled(b, 3, off, piece, last)
				got := h.do()
				isTold(t, name+", "+h.name(), got, want)
				spoil(got.box.Have)
				spoil(got.text)
				if string(room) != "abcdefgh" {
					t.Fatalf("%s, %s: what was handed in is %q", name, h.name(), room)
				}
			}
		}
	}
}

// TestRule3Forked: a box goes on in two ways, of which none sees the other.
func TestRule3Forked(t *testing.T) {
	b := put(chunk.Box{}, 1, 0, []byte("ab"), false).box
	for range 5 {
		one := put(b, 1, len(b.Have), []byte("c"), false)
		other := put(b, 1, len(b.Have), []byte("d"), false)
		if got := string(one.box.Have); got != string(b.Have)+"c" {
			t.Errorf("The one way: %q", got)
		}
		if got := string(other.box.Have); got != string(b.Have)+"d" {
			t.Errorf("The other way: %q", got)
		}
		b = one.box
	}
}

// TestRule3Nil: nil and the empty list are the same.
func TestRule3Nil(t *testing.T) {
	for _, size := range []int{0, 1, api.MaxBytes} {
		for _, off := range []int{-1, 0, 1} {
			a, aLast, aErr := chunk.Cut(nil, off, size)
			b, bLast, bErr := chunk.Cut([]byte{}, off, size)
			if len(a) != 0 || len(b) != 0 || aLast != bLast || aErr != bErr {
				t.Errorf("Cut at %d, by %d: %q, %v, %v; %q, %v, %v", off, size, a, aLast, aErr, b, bLast, bErr)
			}
		}
		m, mErr := chunk.Pieces(nil, size)
		n, nErr := chunk.Pieces([]byte{}, size)
		if m != n || mErr != nErr {
			t.Errorf("Pieces by %d: %d, %v; %d, %v", size, m, mErr, n, nErr)
		}
	}
	for _, h := range puts() {
		empty := h
		if len(h.box.Have) == 0 {
			h.box.Have, empty.box.Have = nil, []byte{}
		}
		if len(h.piece) == 0 {
			h.piece, empty.piece = nil, []byte{}
		}
		isTold(t, h.name(), h.do(), empty.do())
	}
}

// TestRule4: what is answered hangs on the arguments alone: it is the same again, whatever was asked between, and with room behind them.
func TestRule4(t *testing.T) {
	var first []told
	for round := range 3 {
		for i, h := range puts() {
			if round == 2 {
				h.box.Have, h.piece = roomy(h.box.Have), roomy(h.piece)
			}
			got := h.do()
			if round == 0 {
				first = append(first, got)
			}
			isTold(t, h.name(), got, first[i])
		}
		for _, c := range cuts() {
			a, aLast, aErr := chunk.Cut(writing(c.n), c.off, c.size)
			b, bLast, bErr := chunk.Cut(roomy(writing(c.n)), c.off, c.size)
			if !bytes.Equal(a, b) || aLast != bLast || aErr != bErr {
				t.Errorf("%d bytes at %d, by %d: %s, %v, %v; %s, %v, %v", c.n, c.off, c.size, short(a), aLast, aErr, short(b), bLast, bErr)
			}
		}
	}
}

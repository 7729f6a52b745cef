package chunk_test

import (
	"bytes"
	"fmt"
	"math/rand"
	"testing"

	"tollbar/api"
	"tollbar/chunk"
)

// parcel is a piece with what goes beside it.
type parcel struct {
	key, off int
	piece    []byte
	last     bool
}

// way is a text on its way into a box.
type way struct {
	r     *rand.Rand
	text  []byte
	key   int
	box   chunk.Box
	old   []parcel // what was sent
	whole int      // how often the text was whole
}

// drawText draws a text, mostly a short one.
func drawText(r *rand.Rand) []byte {
	b := make([]byte, r.Intn(200))
	switch r.Intn(20) {
	case 0:
		b = nil
	case 1, 2:
		b = make([]byte, 1+r.Intn(3))
	case 3:
		b = make([]byte, 2000+r.Intn(3000))
	}
	r.Read(b)
	return b
}

// size draws how many bytes a piece has at most.
func (w *way) size() int {
	return []int{1, 2, 3, 1 + w.r.Intn(9), 1 + w.r.Intn(40), 1 + w.r.Intn(len(w.text)+2), 1024, api.MaxBytes}[w.r.Intn(8)]
}

// cut is the text's piece at a place.
func (w *way) cut(t *testing.T, off, size int) parcel {
	t.Helper()
	piece, last, err := chunk.Cut(w.text, off, size)
	end := min(len(w.text), off+size)
	isPiece(t, fmt.Sprintf("%d bytes at %d, by %d", len(w.text), off, size), piece, last, err, w.text[off:end], end == len(w.text))
	return parcel{w.key, off, piece, last}
}

// send puts a piece, and holds what is told against CH2; what is whole under the text's key is the text.
func (w *way) send(t *testing.T, p parcel) told {
	t.Helper()
	got := put(w.box, p.key, p.off, p.piece, p.last)
	what := fmt.Sprintf("%d bytes at %d of %d's %d, under %d, %v", len(p.piece), p.off, w.box.Key, len(w.box.Have), p.key, p.last)
	isTold(t, what, got, ruled(w.box, p.key, p.off, p.piece, p.last))
	if got.whole && p.key == w.key {
		w.whole++
		if !bytes.Equal(got.text, w.text) {
			t.Errorf("%s: whole as %s, not %s", what, short(got.text), short(w.text))
		}
	}
	w.box = got.box
	w.old = append(w.old, p)
	return got
}

// between sends something, mostly not what belongs where the text is by now.
func (w *way) between(t *testing.T) {
	t.Helper()
	last := w.r.Intn(2) == 0
	switch w.r.Intn(7) {
	case 0: // what came already, just now or long ago
		if len(w.old) > 0 {
			w.send(t, w.old[len(w.old)-1-w.r.Intn(min(len(w.old), 3))])
		}
	case 1:
		if len(w.old) > 0 {
			w.send(t, w.old[w.r.Intn(len(w.old))])
		}
	case 2: // too early, or too late
		if len(w.text) > 0 {
			w.send(t, w.cut(t, w.r.Intn(len(w.text)), w.size()))
		}
	case 3: // another key's, mostly not its first one
		w.send(t, parcel{w.key + 1 - 2*w.r.Intn(2), 1 + w.r.Intn(len(w.text)+1), []byte("other"), last})
	case 4:
		if w.r.Intn(4) == 0 {
			w.send(t, parcel{w.key + 1, 0, []byte("other"), last})
		}
	case 5: // a place that there is not
		w.send(t, parcel{w.key, -w.r.Intn(5) - 1, []byte("no"), last})
	case 6: // a begin anew
		if w.r.Intn(4) == 0 {
			w.send(t, w.cut(t, 0, w.size()))
		}
	}
}

// through sends the text from where the box tells, with so much between, till it is whole.
func (w *way) through(t *testing.T, between int) {
	t.Helper()
	at := 0
	for range 1 << 16 {
		for between > 0 && w.r.Intn(2) == 0 {
			between--
			w.between(t)
		}
		got := w.send(t, w.cut(t, at, w.size()))
		if got.whole {
			return
		}
		at = got.n
	}
	t.Fatalf("A text of %d bytes is never whole", len(w.text))
}

// TestCH3Plain: a text that is cut, and put piece by piece, is whole with its last piece, and not ahead of it.
func TestCH3Plain(t *testing.T) {
	for name, text := range texts() {
		for _, size := range sizes() {
			what := fmt.Sprintf("%s by %d", name, size)
			n, err := chunk.Pieces(text, size)
			if err != nil {
				t.Fatalf("%s: %v", what, err)
			}
			var got told
			for i := range n {
				piece, last, err := chunk.Cut(text, got.n, size)
				if err != nil || last != (i == n-1) {
					t.Fatalf("%s, at %d: %v, %v", what, got.n, last, err)
				}
				want := taken(5, text[:min((i+1)*size, len(text))], last)
				got = put(got.box, 5, got.n, piece, last)
				isTold(t, fmt.Sprint(what, ", the piece ", i), got, want)
			}
		}
	}
}

// TestCH3Doubled: each piece twice, and behind them all that came ahead of them, but the first one, with which it begins anew: the text is whole once.
func TestCH3Doubled(t *testing.T) {
	w := &way{text: writing(23), key: 8}
	var late []parcel
	for off := 0; off < len(w.text); off += 4 {
		p := w.cut(t, off, 4)
		for _, q := range append([]parcel{p, p}, late...) {
			w.send(t, q)
		}
		if off > 0 {
			late = append(late, p)
		}
	}
	if w.whole != 1 || len(w.box.Have) != 0 || w.box.Key != 8 {
		t.Errorf("Whole %d times; at last %v", w.whole, w.box)
	}
}

// TestCH3Anew: a begin anew behind each number of pieces: the text is whole once, behind all that follow it.
func TestCH3Anew(t *testing.T) {
	for pieces := range 6 {
		w := &way{text: writing(23), key: 8}
		for i := range pieces {
			w.send(t, w.cut(t, 4*i, 4))
		}
		for off := 0; off < len(w.text); off += 5 {
			w.send(t, w.cut(t, off, 5))
		}
		if w.whole != 1 || len(w.box.Have) != 0 {
			t.Errorf("Behind %d pieces: whole %d times", pieces, w.whole)
		}
	}
}

// TestCH3Turned: pieces that come in any order, again and again, are whole once each has come where it belongs.
func TestCH3Turned(t *testing.T) {
	r := rand.New(rand.NewSource(5))
	for range 300 {
		w := &way{text: drawText(r), key: r.Intn(3)}
		size := 1 + len(w.text)/(1+r.Intn(5))
		n, err := chunk.Pieces(w.text, size)
		if err != nil {
			t.Fatalf("Pieces: %v", err)
		}
		for round := range n {
			for _, i := range r.Perm(n) {
				// Once it has begun, the first piece is not sent again: it would begin anew.
				if i > 0 || round == 0 {
					w.send(t, w.cut(t, i*size, size))
				}
			}
		}
		if w.whole != 1 {
			t.Errorf("%d bytes by %d: whole %d times", len(w.text), size, w.whole)
		}
	}
}

// TestCH3Drawn: drawn texts, by pieces of drawn sizes, with pieces between that come twice, too early, too late, under another key, or from the begin on.
func TestCH3Drawn(t *testing.T) {
	r := rand.New(rand.NewSource(12))
	w := &way{r: r}
	for i := range 3000 {
		// A text has a key of its own, and others beside it.
		w.text, w.key, w.whole = drawText(r), 3*i-3000, 0
		w.old = w.old[max(0, len(w.old)-50):]
		w.through(t, r.Intn(60))
		if w.whole == 0 || w.box.Key != w.key || len(w.box.Have) != 0 {
			t.Errorf("Behind the text under %d the box is %d's %s", w.key, w.box.Key, short(w.box.Have))
		}
		for range r.Intn(4) {
			w.between(t)
		}
	}
}

// TestCH3Most: a text of MaxBytes goes through; one of a byte more stays short of its end.
func TestCH3Most(t *testing.T) {
	size := api.MaxBytes / 16
	for _, n := range []int{api.MaxBytes - 1, api.MaxBytes, api.MaxBytes + 1} {
		text := writing(n)
		var got told
		for range 20 {
			piece, last, err := chunk.Cut(text, got.n, size)
			if err != nil {
				t.Fatalf("At %d: %v", got.n, err)
			}
			if got = put(got.box, 1, got.n, piece, last); got.whole {
				break
			}
		}
		want := taken(1, text, true)
		if n > api.MaxBytes {
			want = taken(1, text[:api.MaxBytes], false)
		}
		isTold(t, fmt.Sprint(n, " bytes"), got, want)
	}
}

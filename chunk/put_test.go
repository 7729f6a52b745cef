package chunk_test

import (
	"bytes"
	"fmt"
	"math"
	"testing"

	"tollbar/api"
	"tollbar/chunk"
)

// told is all that Put answers.
type told struct {
	box   chunk.Box
	text  []byte
	n     int
	whole bool
}

// put is Put, its answers in one.
func put(b chunk.Box, key, off int, piece []byte, last bool) told {
	box, text, n, whole := chunk.Put(b, key, off, piece, last)
	return told{box, text, n, whole}
}

// same tells whether two are told alike.
func (a told) same(b told) bool {
	return a.box.Key == b.box.Key && bytes.Equal(a.box.Have, b.box.Have) && bytes.Equal(a.text, b.text) && a.n == b.n && a.whole == b.whole
}

// show tells it.
func (a told) show() string {
	return fmt.Sprintf("%d: %s, %s, %d, %v", a.box.Key, short(a.box.Have), short(a.text), a.n, a.whole)
}

// taken is what is told where the box has these bytes now.
func taken(key int, have []byte, last bool) told {
	if last {
		return told{box: chunk.Box{Key: key}, text: have, n: len(have), whole: true}
	}
	return told{box: chunk.Box{Key: key, Have: have}, n: len(have)}
}

// left is what is told where the box is as it was.
func left(b chunk.Box, key int) told {
	if key == b.Key {
		return told{box: b, n: len(b.Have)}
	}
	return told{box: b}
}

// ruled is what CH2 says, word by word.
func ruled(b chunk.Box, key, off int, piece []byte, last bool) told {
	have := append(append([]byte{}, b.Have...), piece...)
	switch {
	case off == 0 && len(piece) <= 1<<20:
		return taken(key, piece, last)
	case off != 0 && key == b.Key && off == len(b.Have) && len(have) <= 1<<20:
		return taken(key, have, last)
	}
	return left(b, key)
}

// isTold looks at what is told.
func isTold(t *testing.T, what string, got, want told) {
	t.Helper()
	if !got.same(want) {
		t.Errorf("%s: %s, not %s", what, got.show(), want.show())
	}
}

// keys are keys of all sorts.
func keys() []int {
	return []int{0, 1, -1, 2, 64, api.MaxIndex, 1 << 32, 1<<32 + 1, math.MaxInt, math.MinInt}
}

// boxes are boxes of a key, with nothing, little and much in them.
func boxes(key int) []chunk.Box {
	return []chunk.Box{{Key: key}, {Key: key, Have: []byte{}}, {Key: key, Have: []byte("a")}, {Key: key, Have: []byte("abc")}, {Key: key, Have: make([]byte, 5)}, {Key: key, Have: writing(3000)}}
}

// pieces are pieces, the empty one and a nil one too.
func pieces() [][]byte {
	return [][]byte{nil, {}, []byte("x"), []byte("xyz"), {0, 0}, writing(1024)}
}

// wrongs are places other than 0 and one.
func wrongs(right int) []int {
	var l []int
	for _, off := range []int{right - 1, right + 1, right - 2, right + 2, 2 * right, -right, -1, -2, 1, 2, math.MinInt, math.MinInt + right, math.MaxInt - 1, math.MaxInt, api.MaxBytes, 1 << 32, 1<<32 + right, right - 1<<32} {
		if off != right && off != 0 {
			l = append(l, off)
		}
	}
	return l
}

// TestCH2Begin: a piece at 0 makes a fresh box of its key, whatever the box has, and under whichever key.
func TestCH2Begin(t *testing.T) {
	for _, of := range keys() {
		for _, b := range boxes(of) {
			for _, key := range keys() {
				for _, piece := range pieces() {
					what := fmt.Sprintf("%s into %d's %s, under %d", short(piece), of, short(b.Have), key)
					isTold(t, what, put(b, key, 0, piece, false), told{box: chunk.Box{Key: key, Have: piece}, n: len(piece)})
					isTold(t, what+", the last one", put(b, key, 0, piece, true), told{box: chunk.Box{Key: key}, text: piece, n: len(piece), whole: true})
				}
			}
		}
	}
}

// TestCH2Zero: into the zero box: under its key, which is 0, and under another one.
func TestCH2Zero(t *testing.T) {
	isTold(t, "Under 0", put(chunk.Box{}, 0, 0, []byte("ab"), false), told{box: chunk.Box{Have: []byte("ab")}, n: 2})
	isTold(t, "Under 0, the last one", put(chunk.Box{}, 0, 0, []byte("ab"), true), told{text: []byte("ab"), n: 2, whole: true})
	isTold(t, "Under 5", put(chunk.Box{}, 5, 0, []byte("ab"), false), told{box: chunk.Box{Key: 5, Have: []byte("ab")}, n: 2})
	isTold(t, "Under 5, the last one", put(chunk.Box{}, 5, 0, []byte("ab"), true), told{box: chunk.Box{Key: 5}, text: []byte("ab"), n: 2, whole: true})
	isTold(t, "Nothing, the last one", put(chunk.Box{}, 5, 0, nil, true), told{box: chunk.Box{Key: 5}, whole: true})
	for _, last := range []bool{false, true} {
		isTold(t, "At 1", put(chunk.Box{}, 0, 1, []byte("ab"), last), told{})
		isTold(t, "At 1, under 5", put(chunk.Box{}, 5, 1, []byte("ab"), last), told{})
	}
}

// TestCH2Behind: a piece where the next one belongs, under the box's key, is laid behind; the last one leaves an empty box of that key.
func TestCH2Behind(t *testing.T) {
	for _, key := range keys() {
		for _, b := range boxes(key) {
			if len(b.Have) == 0 {
				continue
			}
			for _, piece := range pieces() {
				have := append(append([]byte{}, b.Have...), piece...)
				what := fmt.Sprintf("%s behind %d's %s", short(piece), key, short(b.Have))
				isTold(t, what, put(b, key, len(b.Have), piece, false), told{box: chunk.Box{Key: key, Have: have}, n: len(have)})
				isTold(t, what+", the last one", put(b, key, len(b.Have), piece, true), told{box: chunk.Box{Key: key}, text: have, n: len(have), whole: true})
			}
		}
	}
}

// TestCH2Wrong: a piece at another place leaves the box as it is, and tells where the next one belongs.
func TestCH2Wrong(t *testing.T) {
	for _, key := range keys() {
		for _, b := range boxes(key) {
			for _, off := range wrongs(len(b.Have)) {
				for _, piece := range pieces() {
					for _, last := range []bool{false, true} {
						what := fmt.Sprintf("%s at %d of %d's %s, %v", short(piece), off, key, short(b.Have), last)
						isTold(t, what, put(b, key, off, piece, last), told{box: b, n: len(b.Have)})
					}
				}
			}
		}
	}
}

// TestCH2Other: a piece under another key, but at 0, leaves the box as it is, also where the next piece of the box's key belongs, and tells 0.
func TestCH2Other(t *testing.T) {
	for _, of := range keys() {
		for _, b := range boxes(of) {
			for _, key := range keys() {
				for _, off := range append(wrongs(len(b.Have)), len(b.Have)) {
					if key == of || off == 0 {
						continue
					}
					for _, last := range []bool{false, true} {
						what := fmt.Sprintf("At %d of %d's %s, under %d, %v", off, of, short(b.Have), key, last)
						isTold(t, what, put(b, key, off, []byte("xy"), last), told{box: b})
						isTold(t, what+", nothing", put(b, key, off, nil, last), told{box: b})
					}
				}
			}
		}
	}
}

// TestCH2All: all that can be put of a few keys, places and lengths, against the rule.
func TestCH2All(t *testing.T) {
	for bits := range 3 * 6 * 3 * 12 * 4 * 2 {
		draw := func(n int) int {
			at := bits % n
			bits /= n
			return at
		}
		b := chunk.Box{Key: draw(3) - 1, Have: writing(draw(6))}
		key, off, piece, last := draw(3)-1, draw(12)-3, []byte("xyz")[:draw(4)], draw(2) == 1
		what := fmt.Sprintf("%q at %d of %d's %q, under %d, %v", piece, off, b.Key, b.Have, key, last)
		isTold(t, what, put(b, key, off, piece, last), ruled(b, key, off, piece, last))
	}
}

// TestCH2Most: a box has MaxBytes bytes, and not one more: what would make more is as if it were at a wrong place.
func TestCH2Most(t *testing.T) {
	for _, have := range []int{0, 1, 1024, api.MaxBytes - 1024, api.MaxBytes - 1, api.MaxBytes} {
		b := chunk.Box{Key: 3, Have: writing(have)}
		for _, more := range []int{-1, 0, 1, 2, 1024, api.MaxBytes} {
			n := api.MaxBytes - have + more
			if n < 0 {
				continue
			}
			piece := bytes.Repeat([]byte("m"), n)
			for _, last := range []bool{false, true} {
				what := fmt.Sprintf("%d behind %d, %v", n, have, last)
				want := told{box: b, n: have}
				if more <= 0 {
					want = taken(3, append(append([]byte{}, b.Have...), piece...), last)
				}
				isTold(t, what, put(b, 3, have, piece, last), want)
				isTold(t, what+", one ahead", put(b, 3, have+1, piece, last), told{box: b, n: have})
				if have > 0 {
					isTold(t, what+", under another key", put(b, 4, have, piece, last), told{box: b})
				}
			}
		}
	}
}

// TestCH2MostBegin: the same of a piece at 0, whatever the box has: what it has counts for nothing.
func TestCH2MostBegin(t *testing.T) {
	for _, have := range []int{0, 1, 1024, api.MaxBytes - 1, api.MaxBytes} {
		b := chunk.Box{Key: 3, Have: bytes.Repeat([]byte("h"), have)}
		for _, n := range []int{0, 1, api.MaxBytes - 1, api.MaxBytes, api.MaxBytes + 1, 2 * api.MaxBytes} {
			piece := writing(n)
			for _, last := range []bool{false, true} {
				for _, key := range []int{3, 4} {
					want := left(b, key)
					if n <= api.MaxBytes {
						want = taken(key, piece, last)
					}
					isTold(t, fmt.Sprintf("%d into a box with %d, under %d, %v", n, have, key, last), put(b, key, 0, piece, last), want)
				}
			}
		}
	}
}

// TestCH2Over: a box that is handed in with more than it may have takes nothing behind, not even nothing; but it begins afresh.
func TestCH2Over(t *testing.T) {
	for _, have := range []int{api.MaxBytes + 1, 2 * api.MaxBytes} {
		b := chunk.Box{Key: 3, Have: writing(have)}
		for _, last := range []bool{false, true} {
			for _, piece := range [][]byte{nil, []byte("x")} {
				what := fmt.Sprintf("%q, box of %d, %v", piece, have, last)
				isTold(t, what, put(b, 3, have, piece, last), told{box: b, n: have})
				isTold(t, what+", under another key", put(b, 4, have, piece, last), told{box: b})
				isTold(t, what+", at 0", put(b, 3, 0, piece, last), taken(3, piece, last))
				isTold(t, what+", at 0, under another key", put(b, 4, 0, piece, last), taken(4, piece, last))
			}
		}
	}
}

// TestCH2Again: behind the last piece the box is as one in which nothing was: that piece again is at a wrong place, but where it is the first one too.
func TestCH2Again(t *testing.T) {
	b := put(chunk.Box{}, 9, 0, []byte("ab"), false).box
	b = put(b, 9, 2, []byte("c"), true).box
	isTold(t, "The last one again", put(b, 9, 2, []byte("c"), true), told{box: chunk.Box{Key: 9}})
	isTold(t, "The first one again", put(b, 9, 0, []byte("ab"), false), told{box: chunk.Box{Key: 9, Have: []byte("ab")}, n: 2})
	b = put(b, 9, 0, []byte("abc"), true).box
	isTold(t, "The only one again", put(b, 9, 0, []byte("abc"), true), told{box: chunk.Box{Key: 9}, text: []byte("abc"), n: 3, whole: true})
}

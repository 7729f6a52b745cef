package chunk_test

import (
	"bytes"
	"fmt"
	"math"
	"testing"

	"tollbar/api"
	"tollbar/chunk"
)

// writing is a text of so many bytes, in which a place is told from those about it, and from those a power of two away.
func writing(n int) []byte {
	b := make([]byte, n)
	for i := range b {
		b[i] = byte(i*7 + i>>8*11 + i>>16*5 + 33)
	}
	return b
}

// texts are texts of few bytes, by how they came to be; the empty one and a nil one too.
func texts() map[string][]byte {
	m := map[string][]byte{"nil": nil, "empty": {}, "with room": make([]byte, 0, 9), "noughts": make([]byte, 6), "the same": bytes.Repeat([]byte("a"), 7)}
	for n := range 33 {
		m[fmt.Sprint(n, " bytes")] = writing(n)
	}
	return m
}

// sizes are sizes that may be, few and many.
func sizes() []int {
	l := []int{api.MaxBytes / 2, api.MaxBytes - 1, api.MaxBytes}
	for n := range 35 {
		l = append(l, n+1)
	}
	return l
}

// noSizes are sizes that may not be: about the bounds, and those that a smaller number would have for one.
func noSizes() []int {
	l := []int{math.MinInt, math.MinInt + 1, -api.MaxBytes, -2, -1, 0, api.MaxBytes + 1, api.MaxBytes + 2, 2 * api.MaxBytes, math.MaxInt - 1, math.MaxInt}
	for _, bits := range []int{32, 48} {
		l = append(l, 1<<bits, 1<<bits+2, 2-1<<bits)
	}
	return append(l, math.MinInt+2)
}

// offsBeyond are places that a text of so many bytes has not.
func offsBeyond(n int) []int {
	l := []int{math.MinInt, math.MinInt + 1, -api.MaxBytes, -n - 1, -2, -1, n + 1, n + 2, 2*n + 1, api.MaxBytes + n, math.MaxInt - 1, math.MaxInt}
	for _, bits := range []int{32, 48} {
		l = append(l, 1<<bits, 1<<bits+n, n-1<<bits)
	}
	if n > 0 {
		l = append(l, n, -n)
	}
	return append(l, math.MinInt+n)
}

// isPiece looks at a piece that was cut.
func isPiece(t *testing.T, what string, got []byte, last bool, err error, want []byte, ends bool) {
	t.Helper()
	if err != nil || !bytes.Equal(got, want) || last != ends {
		t.Errorf("%s: %s, %v, %v, not %s, %v", what, short(got), last, err, short(want), ends)
	}
}

// isNoPiece looks at an error of Cut, that stands alone.
func isNoPiece(t *testing.T, what string, got []byte, last bool, err error, want api.Errno) {
	t.Helper()
	if err != want || len(got) != 0 || last {
		t.Errorf("%s: %s, %v, %v, not %v", what, short(got), last, err, want)
	}
}

// short tells bytes, of many the first ones.
func short(b []byte) string {
	if len(b) > 40 {
		return fmt.Sprintf("%q.. (%d)", b[:40], len(b))
	}
	return fmt.Sprintf("%q", b)
}

// TestExample: the document's example, there and back.
func TestExample(t *testing.T) {
	text := []byte("abcde")
	if n, err := chunk.Pieces(text, 2); n != 3 || err != nil {
		t.Errorf("Pieces: %d, %v", n, err)
	}
	var b chunk.Box
	for i, want := range []string{"ab", "cd", "e"} {
		piece, last, err := chunk.Cut(text, 2*i, 2)
		isPiece(t, fmt.Sprint("At ", 2*i), piece, last, err, []byte(want), i == 2)
		var whole []byte
		var n int
		var ok bool
		b, whole, n, ok = chunk.Put(b, 7, 2*i, piece, last)
		if i < 2 && (string(b.Have) != "abcd"[:2*i+2] || len(whole) != 0 || n != 2*i+2 || ok) {
			t.Errorf("Put at %d: %v, %q, %d, %v", 2*i, b, whole, n, ok)
		}
		if i == 2 && (len(b.Have) != 0 || string(whole) != "abcde" || n != 5 || !ok) {
			t.Errorf("Put at %d: %v, %q, %d, %v", 2*i, b, whole, n, ok)
		}
		if b.Key != 7 {
			t.Errorf("Put at %d: the key %d", 2*i, b.Key)
		}
	}
}

// TestCH1Size: a size that may not be, of each text and at each place: it is named ahead of a place that may not be.
func TestCH1Size(t *testing.T) {
	all := texts()
	all["many bytes"] = writing(api.MaxBytes + 2)
	for name, text := range all {
		for _, size := range noSizes() {
			for _, off := range append(offsBeyond(len(text)), 0, len(text)/2, len(text)-1) {
				piece, last, err := chunk.Cut(text, off, size)
				isNoPiece(t, fmt.Sprintf("%s at %d, by %d", name, off, size), piece, last, err, api.ErrArg)
			}
			if n, err := chunk.Pieces(text, size); n != 0 || err != api.ErrArg {
				t.Errorf("Pieces of %s by %d: %d, %v", name, size, n, err)
			}
		}
	}
}

// TestCH1Off: a place that a text has not, by each size that may be.
func TestCH1Off(t *testing.T) {
	for name, text := range texts() {
		for _, size := range sizes() {
			for _, off := range offsBeyond(len(text)) {
				piece, last, err := chunk.Cut(text, off, size)
				isNoPiece(t, fmt.Sprintf("%s at %d, by %d", name, off, size), piece, last, err, api.ErrRange)
			}
		}
	}
}

// TestCH1Empty: the empty text has one piece, at 0, that goes to its end.
func TestCH1Empty(t *testing.T) {
	for name, text := range texts() {
		if len(text) > 0 {
			continue
		}
		for _, size := range sizes() {
			what := fmt.Sprintf("%s by %d", name, size)
			piece, last, err := chunk.Cut(text, 0, size)
			isPiece(t, what, piece, last, err, nil, true)
			for _, off := range []int{1, -1} {
				piece, last, err = chunk.Cut(text, off, size)
				isNoPiece(t, what, piece, last, err, api.ErrRange)
			}
			if n, err := chunk.Pieces(text, size); n != 1 || err != nil {
				t.Errorf("Pieces of %s: %d, %v", what, n, err)
			}
		}
	}
}

// TestCH1Cut: each place of a text, by each size.
func TestCH1Cut(t *testing.T) {
	for name, text := range texts() {
		for _, size := range sizes() {
			for off := range text {
				end, ends := off+size, false
				if end >= len(text) {
					end, ends = len(text), true
				}
				piece, last, err := chunk.Cut(text, off, size)
				isPiece(t, fmt.Sprintf("%s at %d, by %d", name, off, size), piece, last, err, text[off:end], ends)
			}
		}
	}
}

// TestCH1Whole: the pieces of a text, one behind the other, are the text; just the last one goes to its end; and they are as many as Pieces tells.
func TestCH1Whole(t *testing.T) {
	for name, text := range texts() {
		for _, size := range sizes() {
			isCut(t, fmt.Sprintf("%s by %d", name, size), text, size)
		}
	}
}

// TestCH1Great: texts about and beyond MaxBytes, which bounds the size alone.
func TestCH1Great(t *testing.T) {
	for _, n := range []int{api.MaxBytes - 1, api.MaxBytes, api.MaxBytes + 1, 2 * api.MaxBytes, 2*api.MaxBytes + 1, 3*api.MaxBytes - 1} {
		text := writing(n)
		for _, size := range []int{1023, 1024, 1025, api.MaxBytes / 2, api.MaxBytes - 1, api.MaxBytes} {
			isCut(t, fmt.Sprintf("%d bytes by %d", n, size), text, size)
		}
		if got, err := chunk.Pieces(text, 1); got != n || err != nil {
			t.Errorf("Pieces of %d bytes by 1: %d, %v", n, got, err)
		}
		for _, off := range []int{0, 1, n / 2, n - 2, n - 1} {
			piece, last, err := chunk.Cut(text, off, 1)
			isPiece(t, fmt.Sprintf("%d bytes at %d, by 1", n, off), piece, last, err, text[off:off+1], off == n-1)
		}
		for _, off := range offsBeyond(n) {
			piece, last, err := chunk.Cut(text, off, api.MaxBytes)
			isNoPiece(t, fmt.Sprintf("%d bytes at %d", n, off), piece, last, err, api.ErrRange)
		}
	}
}

// isCut looks at all pieces of a text.
func isCut(t *testing.T, what string, text []byte, size int) {
	t.Helper()
	all := make([]byte, 0, len(text))
	n := 0
	for done := false; !done; n++ {
		piece, last, err := chunk.Cut(text, len(all), size)
		if err != nil || len(piece) > size || len(piece) < size && !last || len(piece) == 0 && len(text) > 0 {
			t.Fatalf("%s, at %d: %s, %v, %v", what, len(all), short(piece), last, err)
		}
		all = append(all, piece...)
		done = last
		if last != (len(all) == len(text)) {
			t.Fatalf("%s, behind %d bytes: %v", what, len(all), last)
		}
	}
	if !bytes.Equal(all, text) {
		t.Errorf("%s: %s", what, short(all))
	}
	if got, err := chunk.Pieces(text, size); got != n || err != nil {
		t.Errorf("%s: %d pieces, %v, not %d", what, got, err, n)
	}
}

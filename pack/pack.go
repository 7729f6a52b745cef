// Package pack is layer 1: numbers, truths and texts as letters and digits: see shared/doc/01-pack.md.
package pack

import (
	"math"
	"strconv"

	"tollbar/api"
)

// The letters that things begin with, and the signs that digits end with.
const (
	letterUint  = 'n'
	letterInt   = 'i'
	letterTrue  = 'y'
	letterFalse = 'z'
	letterText  = 't'
	letterBytes = 'b'
	endNumber   = ';'
	endLength   = ':'
)

// mostDigits is how many digits 2^64 - 1 has: no number needs more.
const mostDigits = 20

// Writer lays things behind one another.
type Writer struct{ b []byte }

// New is a writer of nothing.
func New() *Writer { return &Writer{} }

// Uint lays a number from 0 on.
func (w *Writer) Uint(n uint64) *Writer {
	if w == nil {
		return nil
	}
	w.b = append(w.b, letterUint)
	w.b = strconv.AppendUint(w.b, n, 10)
	w.b = append(w.b, endNumber)
	return w
}

// Int lays a number.
func (w *Writer) Int(n int) *Writer {
	if w == nil {
		return nil
	}
	w.b = append(w.b, letterInt)
	w.b = strconv.AppendInt(w.b, int64(n), 10)
	w.b = append(w.b, endNumber)
	return w
}

// Bool lays a truth.
func (w *Writer) Bool(b bool) *Writer {
	if w == nil {
		return nil
	}
	if b {
		w.b = append(w.b, letterTrue)
	} else {
		w.b = append(w.b, letterFalse)
	}
	return w
}

// Text lays a text.
func (w *Writer) Text(s string) *Writer {
	if w == nil {
		return nil
	}
	w.head(letterText, len(s))
	w.b = append(w.b, s...)
	return w
}

// Bytes lays bytes.
func (w *Writer) Bytes(b []byte) *Writer {
	if w == nil {
		return nil
	}
	w.head(letterBytes, len(b))
	w.b = append(w.b, b...)
	return w
}

// head lays what stands ahead of so many bytes.
func (w *Writer) head(letter byte, length int) {
	w.b = append(w.b, letter)
	w.b = strconv.AppendInt(w.b, int64(length), 10)
	w.b = append(w.b, endLength)
}

// Done are the bytes.
func (w *Writer) Done() []byte {
	if w == nil {
		return nil
	}
	return copied(w.b)
}

// Reader takes things off bytes, one behind the other.
type Reader struct {
	left []byte
	err  error
}

// Read is a reader of bytes.
func Read(b []byte) *Reader { return &Reader{left: copied(b)} }

// Kind is the letter of what comes next; 0: nothing does.
func (r *Reader) Kind() byte {
	if r.stopped() || len(r.left) == 0 {
		return 0
	}
	switch c := r.left[0]; c {
	case letterUint, letterInt, letterTrue, letterFalse, letterText, letterBytes:
		return c
	}
	return 0
}

// Uint is a number from 0 up to a bound.
func (r *Reader) Uint(most uint64) uint64 {
	if r.stopped() {
		return 0
	}
	n, rest, err := takeUint(r.left, most)
	r.settle(rest, err)
	return n
}

// Int is a number.
func (r *Reader) Int() int {
	if r.stopped() {
		return 0
	}
	n, rest, err := takeInt(r.left)
	r.settle(rest, err)
	return n
}

// Count is how many things come, up to a bound.
func (r *Reader) Count(most int) int {
	if r.stopped() {
		return 0
	}
	n, rest, err := takeCount(r.left, most)
	r.settle(rest, err)
	return n
}

// Bool is a truth.
func (r *Reader) Bool() bool {
	if r.stopped() {
		return false
	}
	truth, rest, err := takeBool(r.left)
	r.settle(rest, err)
	return truth
}

// Text is a text of at most so many bytes.
func (r *Reader) Text(most int) string {
	if r.stopped() {
		return ""
	}
	b, rest, err := takeBytes(r.left, letterText, most)
	r.settle(rest, err)
	return string(b)
}

// Bytes are at most so many.
func (r *Reader) Bytes(most int) []byte {
	if r.stopped() {
		return nil
	}
	b, rest, err := takeBytes(r.left, letterBytes, most)
	r.settle(rest, err)
	return copied(b)
}

// Left is how many bytes are left.
func (r *Reader) Left() int {
	if r == nil {
		return 0
	}
	return len(r.left)
}

// Done is the first error, or that bytes are left.
func (r *Reader) Done() error {
	switch {
	case r == nil:
		return api.ErrArg
	case r.err != nil:
		return r.err
	case len(r.left) > 0:
		return api.ErrForm
	}
	return nil
}

// stopped tells whether nothing can be taken off any more.
func (r *Reader) stopped() bool { return r == nil || r.err != nil }

// settle goes on to the rest, or keeps the error for good and stays where it is.
func (r *Reader) settle(rest []byte, err error) {
	if err != nil {
		r.err = err
		return
	}
	r.left = rest
}

// The functions below take a thing off the begin of bytes, and answer it and
// the rest. They change nothing, so that an error leaves a reader as it was.

// takeUint takes off a number from 0 up to a bound.
func takeUint(b []byte, most uint64) (uint64, []byte, error) {
	n, rest, err := takeHead(b, letterUint, endNumber)
	if err != nil {
		return 0, nil, err
	}
	if n > most {
		return 0, nil, api.ErrRange
	}
	return n, rest, nil
}

// takeInt takes off a number.
func takeInt(b []byte) (int, []byte, error) {
	b, err := takeLetter(b, letterInt)
	if err != nil {
		return 0, nil, err
	}
	below := len(b) > 0 && b[0] == '-'
	if below {
		b = b[1:]
	}
	size, rest, err := takeDigits(b, endNumber)
	if err != nil {
		return 0, nil, err
	}
	n, err := signed(size, below)
	if err != nil {
		return 0, nil, err
	}
	return n, rest, nil
}

// takeCount takes off how many things come: each has a byte at least, so more
// than the bytes behind can't be.
func takeCount(b []byte, most int) (int, []byte, error) {
	n, rest, err := takeUint(b, uint64(max(most, 0)))
	if err != nil {
		return 0, nil, err
	}
	if n > uint64(len(rest)) {
		return 0, nil, api.ErrLong
	}
	return int(n), rest, nil
}

// takeBool takes off a truth.
func takeBool(b []byte) (bool, []byte, error) {
	if len(b) == 0 {
		return false, nil, api.ErrEnd
	}
	switch b[0] {
	case letterTrue:
		return true, b[1:], nil
	case letterFalse:
		return false, b[1:], nil
	}
	return false, nil, api.ErrForm
}

// takeBytes takes off at most so many bytes that stand behind a letter and
// their length. What it answers is a piece of b.
func takeBytes(b []byte, letter byte, most int) ([]byte, []byte, error) {
	if most < 0 {
		return nil, nil, api.ErrArg
	}
	n, rest, err := takeHead(b, letter, endLength)
	switch {
	case err != nil:
		return nil, nil, err
	case n > uint64(most):
		return nil, nil, api.ErrLong
	case n > uint64(len(rest)):
		return nil, nil, api.ErrEnd
	}
	return rest[:n], rest[n:], nil
}

// takeHead takes off a letter and the digits behind it.
func takeHead(b []byte, letter, end byte) (uint64, []byte, error) {
	b, err := takeLetter(b, letter)
	if err != nil {
		return 0, nil, err
	}
	return takeDigits(b, end)
}

// takeLetter takes off a letter.
func takeLetter(b []byte, letter byte) ([]byte, error) {
	if len(b) == 0 {
		return nil, api.ErrEnd
	}
	if b[0] != letter {
		return nil, api.ErrForm
	}
	return b[1:], nil
}

// takeDigits takes off digits and the sign that they end with.
func takeDigits(b []byte, end byte) (uint64, []byte, error) {
	for i, c := range b {
		if c == end {
			n, err := number(b[:i])
			if err != nil {
				return 0, nil, err
			}
			return n, b[i+1:], nil
		}
		if c < '0' || c > '9' || i == mostDigits {
			return 0, nil, api.ErrForm
		}
	}
	return 0, nil, api.ErrEnd
}

// number is the number of digits: ErrForm, if it is not told so.
func number(digits []byte) (uint64, error) {
	if len(digits) > 1 && digits[0] == '0' {
		return 0, api.ErrForm
	}
	n, err := strconv.ParseUint(string(digits), 10, 64)
	if err != nil {
		return 0, api.ErrForm
	}
	return n, nil
}

// signed is a number of a size, below 0 or not.
func signed(size uint64, below bool) (int, error) {
	switch {
	case !below && size <= math.MaxInt:
		return int(size), nil
	case !below:
		return 0, api.ErrRange
	case size == 0:
		return 0, api.ErrForm
	case size-1 > math.MaxInt:
		return 0, api.ErrRange
	}
	// The least int has no int of its size: one less has.
	return -int(size-1) - 1, nil
}

// copied are the same bytes in memory of their own.
func copied(b []byte) []byte { return append([]byte(nil), b...) }

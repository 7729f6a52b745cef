package read_test

import (
	"fmt"
	"slices"
	"testing"

	"tollbar/api"
	"tollbar/read"
)

// roomy is a queue with spare room behind its items, in which items stand that could wait too.
func roomy(q read.Queue) read.Queue {
	own := slices.Concat(q.L, slices.Repeat([]read.Item{{Term: 1, Round: 1, Index: 1, Token: 77}}, 9))
	return of(q.Limit, own[:len(q.L)]...)
}

// whole is all of a list, its spare room too.
func whole[T any](l []T) []T { return l[:cap(l)] }

// spoil writes over all of a list, its spare room too.
func spoil[T any](l []T, with T) {
	for i := range whole(l) {
		whole(l)[i] = with
	}
}

// spoilt is what is written over.
var spoilt = read.Item{Term: -7, Round: -7, Index: -7, Token: -7}

// told is all that a call tells.
type told struct {
	q   read.Queue
	l   []int
	err error
}

// answer is what a call that can fail tells.
func answer(q read.Queue, err error) told { return told{q: q, err: err} }

// parting is what a call by which items come out tells.
func parting(q read.Queue, l []int) told { return told{q: q, l: l} }

// show tells it.
func (a told) show() string { return fmt.Sprint(show(a.q), ", ", short(a.l), ", ", a.err) }

// copied is the same in memory of its own.
func (a told) copied() told {
	return told{of(a.q.Limit, slices.Clone(a.q.L)...), slices.Clone(a.l), a.err}
}

// same tells whether two are told alike.
func (a told) same(b told) bool {
	return same(a.q, b.q) && slices.Equal(a.l, b.l) && (a.err == nil) == (b.err == nil) && (a.err == nil || a.err == b.err)
}

// spoil writes over all that is told.
func (a told) spoil() {
	spoil(a.q.L, spoilt)
	spoil(a.l, -7)
}

// calls are calls of a queue, by name: such of which nothing, some and all comes out.
func calls() map[string]func(q read.Queue) told {
	m := map[string]func(q read.Queue) told{
		"Check":          func(q read.Queue) told { return told{err: read.Check(q)} },
		"Add":            func(q read.Queue) told { return answer(read.Add(q, read.Item{Term: 1, Round: 2})) },
		"Add of no item": func(q read.Queue) told { return answer(read.Add(q, read.Item{Term: -1})) },
	}
	for term := range 4 {
		m[fmt.Sprint("Rounds ", term)] = func(q read.Queue) told { return told{l: read.Rounds(q, term)} }
		m[fmt.Sprint("Fail ", term)] = func(q read.Queue) told { return parting(read.Fail(q, term)) }
		for _, upTo := range []int{-1, 0, 5, 9, api.MaxIndex} {
			m[fmt.Sprint("Take ", term, " ", upTo)] = func(q read.Queue) told { return parting(read.Take(q, term, upTo, upTo)) }
		}
	}
	return m
}

// handed are queues that may be and such that may not, few of them.
func handed() []read.Queue {
	one := read.Item{Term: 1, Round: 1, Index: 1, Token: 1}
	return []read.Queue{
		{}, of(3), of(1, one), of(2, one, one), of(9, some(9)...), of(10, some(9)...), of(60, some(50)...), of(8, some(9)...),
		of(7, one, with(one, "Term", 2), with(one, "Round", 6), with(one, "Index", 6), one),
		of(7, one, with(one, "Token", -1), one), of(7, with(one, "Term", 2), with(one, "Term", 3)),
	}
}

// TestRule3Queue: no answer shares anything with what is handed in, nor with another answer; what is handed in is not changed, its spare room neither.
func TestRule3Queue(t *testing.T) {
	for name, call := range calls() {
		for i, given := range handed() {
			q := roomy(given)
			before := slices.Clone(whole(q.L))
			first, second := call(q), call(q)
			want := first.copied()
			what := fmt.Sprintf("%s of %d", name, i)
			if !second.same(want) {
				t.Errorf("%s: %s, then %s", what, want.show(), second.show())
			}
			second.spoil()
			if !slices.Equal(whole(q.L), before) {
				t.Errorf("%s: what was handed in is %s, not %s", what, short(whole(q.L)), short(before))
			}
			spoil(q.L, spoilt)
			if !first.same(want) {
				t.Errorf("%s, behind a change of all else: %s, not %s", what, first.show(), want.show())
			}
		}
	}
}

// TestRule3Apart: a queue that is told and the tokens beside it, with their spare room, are of other memory than what was handed in.
func TestRule3Apart(t *testing.T) {
	for name, call := range calls() {
		for i, given := range handed() {
			q := roomy(given)
			got := call(q)
			before := slices.Clone(whole(q.L))
			wantItems, wantTokens := slices.Clone(whole(got.q.L)), slices.Clone(whole(got.l))
			spoil(q.L, spoilt)
			if !slices.Equal(whole(got.q.L), wantItems) || !slices.Equal(whole(got.l), wantTokens) {
				t.Errorf("%s of %d: it changed with what was handed in", name, i)
			}
			copy(whole(q.L), before)
			got.spoil()
			if !slices.Equal(whole(q.L), before) {
				t.Errorf("%s of %d: what was handed in changed with it", name, i)
			}
		}
	}
}

// TestRule3Forked: a queue goes on in two ways, of which none sees the other, nor what it was made of.
func TestRule3Forked(t *testing.T) {
	q := of(9)
	for i := range 5 {
		q, _ = read.Add(q, some(5)[i])
	}
	x, y := read.Item{Term: 1, Token: 1}, read.Item{Term: 1, Token: 2}
	for _, made := range []func() read.Queue{
		func() read.Queue { return q },
		func() read.Queue { a, _ := read.Take(q, 1, 99, 99); return a },
		func() read.Queue { a, _ := read.Take(q, 9, 99, 99); return a },
		func() read.Queue { a, _ := read.Fail(q, 2); return a },
	} {
		base := made()
		has := slices.Clone(base.L)
		a, _ := read.Add(base, x)
		b, _ := read.Add(base, y)
		c, _ := read.Fail(a, 5)
		if !same(a, of(9, append(slices.Clone(has), x)...)) || !same(b, of(9, append(slices.Clone(has), y)...)) || !same(base, of(9, has...)) || !same(c, of(9)) {
			t.Errorf("Of %v: %v, %v, %v, %v", has, base, a, b, c)
		}
	}
}

// TestRule3Nil: nil and the empty list are the same, with room behind it too.
func TestRule3Nil(t *testing.T) {
	for name, call := range calls() {
		for _, limit := range []int{0, 1, 5, api.MaxList, api.MaxList + 1} {
			want := call(of(limit))
			for _, l := range [][]read.Item{{}, make([]read.Item, 0, 9), some(9)[:0]} {
				if got := call(of(limit, l...)); !got.same(want) {
					t.Errorf("%s of an empty one of the limit %d: %s, not %s", name, limit, got.show(), want.show())
				}
			}
		}
	}
}

// TestRule4: what is answered hangs on the arguments alone: it is the same again, whatever was asked between, and with room behind them.
func TestRule4(t *testing.T) {
	first := map[string]told{}
	for round := range 3 {
		for name, call := range calls() {
			for i, q := range handed() {
				if round == 1 {
					q = roomy(q)
				}
				got, what := call(q), fmt.Sprintf("%s of %d", name, i)
				if round == 0 {
					first[what] = got
				} else if !got.same(first[what]) {
					t.Errorf("%s: %s, not %s", what, got.show(), first[what].show())
				}
			}
		}
	}
}

package read_test

import (
	"fmt"
	"math"
	"testing"

	"tollbar/api"
	"tollbar/read"
)

// parted is what comes out of a queue, and what is left, told item by item.
func parted(q read.Queue, out func(x read.Item) bool) (read.Queue, []int) {
	left, tokens := of(q.Limit), []int(nil)
	for i := range q.L {
		if out(q.L[i]) {
			tokens = append(tokens, q.L[i].Token)
			continue
		}
		left.L = append(left.L, q.L[i])
	}
	return left, tokens
}

// takes looks at a Take, as the words say it.
func takes(t *testing.T, what string, q read.Queue, term, heard, applied int) {
	t.Helper()
	want, wantTokens := parted(q, func(x read.Item) bool {
		switch {
		case x.Term != term, x.Round > heard, x.Index > applied:
			return false
		}
		return true
	})
	got, tokens := read.Take(q, term, heard, applied)
	isParted(t, fmt.Sprintf("%s: Take(%d, %d, %d)", what, term, heard, applied), got, tokens, want, wantTokens...)
}

// TestRE1TakeBounds: one item, its round below, at and above what was heard, its index below, at and above what was applied, of that term, an older and a newer one.
func TestRE1TakeBounds(t *testing.T) {
	x := read.Item{Term: 4, Round: 30, Index: 500, Token: 9}
	for _, term := range []int{3, 4, 5, 0, -4, 30, 500, 9, math.MinInt, math.MaxInt} {
		for _, heard := range []int{29, 30, 31, 0, -30, 4, 500, math.MinInt, math.MaxInt} {
			for _, applied := range []int{499, 500, 501, 0, -500, 4, 30, math.MinInt, math.MaxInt} {
				left, tokens := read.Take(of(2, x), term, heard, applied)
				what := fmt.Sprintf("Take(%d, %d, %d)", term, heard, applied)
				if term == 4 && heard >= 30 && applied >= 500 {
					isParted(t, what, left, tokens, of(2), 9)
				} else {
					isParted(t, what, left, tokens, of(2, x))
				}
			}
		}
	}
}

// TestRE1TakeEnds: items of numbers at both ends, with numbers there and beyond.
func TestRE1TakeEnds(t *testing.T) {
	numbers := append(good(), bad()...)
	for _, part := range []string{"Term", "Round", "Index"} {
		for _, n := range good() {
			q := of(4, some(4)...)
			q.L[1], q.L[2] = with(q.L[1], part, n), with(q.L[2], part, n)
			for _, a := range numbers {
				takes(t, part, q, q.L[1].Term, a, api.MaxIndex)
				takes(t, part, q, q.L[1].Term, api.MaxIndex, a)
				takes(t, part, q, a, api.MaxIndex, math.MaxInt)
				takes(t, part, q, n, a, a)
			}
		}
	}
}

// TestRE1TakeNoughts: a round and an index of 0 are at most 0, of the term 0 too.
func TestRE1TakeNoughts(t *testing.T) {
	q := of(3, read.Item{Token: 5}, read.Item{Term: 1, Token: 6})
	left, tokens := read.Take(q, 0, 0, 0)
	isParted(t, "Of the term 0", left, tokens, of(3, q.L[1]), 5)
	left, tokens = read.Take(q, 1, 0, 0)
	isParted(t, "Of the term 1", left, tokens, of(3, q.L[0]), 6)
	for _, n := range []int{-1, math.MinInt} {
		left, tokens = read.Take(q, 0, n, 0)
		isParted(t, fmt.Sprint("With ", n, " heard"), left, tokens, q)
		left, tokens = read.Take(q, 0, 0, n)
		isParted(t, fmt.Sprint("With ", n, " applied"), left, tokens, q)
	}
}

// TestRE1TakeOrder: tokens and what is left are in the queue's order, whatever their numbers; of no item, some and all.
func TestRE1TakeOrder(t *testing.T) {
	a := read.Item{Term: 2, Round: 9, Index: 3, Token: 50}
	b := read.Item{Term: 1, Round: 1, Index: 1, Token: 20}
	c := read.Item{Term: 2, Round: 4, Index: 8, Token: 40}
	d := read.Item{Term: 3, Round: 2, Index: 2, Token: 10}
	e := read.Item{Term: 2, Round: 5, Index: 1, Token: 30}
	q := of(7, a, b, c, d, e)
	for _, o := range []struct {
		term, heard, applied int
		left                 []read.Item
		tokens               []int
	}{
		{2, 3, 9, []read.Item{a, b, c, d, e}, nil},
		{2, 9, 0, []read.Item{a, b, c, d, e}, nil},
		{2, 4, 7, []read.Item{a, b, c, d, e}, nil},
		{2, 4, 8, []read.Item{a, b, d, e}, []int{40}},
		{2, 5, 1, []read.Item{a, b, c, d}, []int{30}},
		{2, 5, 8, []read.Item{a, b, d}, []int{40, 30}},
		{2, 9, 3, []read.Item{b, c, d}, []int{50, 30}},
		{2, 8, 8, []read.Item{a, b, d}, []int{40, 30}},
		{2, 9, 8, []read.Item{b, d}, []int{50, 40, 30}},
		{1, 9, 8, []read.Item{a, c, d, e}, []int{20}},
		{3, 9, 8, []read.Item{a, b, c, e}, []int{10}},
		{4, 9, 8, []read.Item{a, b, c, d, e}, nil},
		{0, 9, 8, []read.Item{a, b, c, d, e}, nil},
	} {
		left, tokens := read.Take(q, o.term, o.heard, o.applied)
		isParted(t, fmt.Sprintf("Take(%d, %d, %d)", o.term, o.heard, o.applied), left, tokens, of(7, o.left...), o.tokens...)
	}
	left, tokens := read.Take(of(7, a, c, e), 2, 9, 8)
	isParted(t, "Take of all", left, tokens, of(7), 50, 40, 30)
	left, tokens = read.Take(of(7, e, c, a), 2, 9, 8)
	isParted(t, "Take of all, turned", left, tokens, of(7), 30, 40, 50)
	left, tokens = read.Take(of(7), 2, 9, 8)
	isParted(t, "Take of none", left, tokens, of(7))
}

// TestRE1TakeTokens: tokens come out as they stand, several of one number too.
func TestRE1TakeTokens(t *testing.T) {
	x := read.Item{Term: 1, Round: 1, Index: 1, Token: 7}
	q := of(9, x, with(x, "Round", 2), x, with(x, "Token", 0), with(x, "Term", 2), x, with(x, "Token", api.MaxIndex))
	left, tokens := read.Take(q, 1, 1, 1)
	isParted(t, "Take", left, tokens, of(9, q.L[1], q.L[4]), 7, 7, 0, 7, api.MaxIndex)
}

// TestRE1TakeAll: all queues that may be, with what was heard and applied at and about each of their items' numbers.
func TestRE1TakeAll(t *testing.T) {
	for name, q := range queues() {
		for _, x := range q.L[:min(len(q.L), 3)] {
			for _, by := range []int{-1, 0, 1} {
				takes(t, name, q, x.Term, x.Round+by, x.Index)
				takes(t, name, q, x.Term, x.Round, x.Index+by)
				takes(t, name, q, x.Term+by, x.Round, x.Index)
				takes(t, name, q, x.Term, x.Round+by, x.Index+by)
			}
		}
		takes(t, name, q, 2, 5, 6)
		takes(t, name, q, 1, math.MaxInt, math.MaxInt)
		takes(t, name, q, 1, math.MinInt, math.MinInt)
	}
}

// TestRE1TakeEach: all short queues of few numbers, with all that may be asked of them there.
func TestRE1TakeEach(t *testing.T) {
	for _, l := range lists(2) {
		q := of(2, l...)
		for term := range 4 {
			for heard := range 4 {
				for applied := range 4 {
					takes(t, fmt.Sprint(l), q, term, heard, applied)
				}
			}
		}
	}
}

// lists are all lists of up to so many items whose terms, rounds and indexes are 1 or 2.
func lists(most int) [][]read.Item {
	all := [][]read.Item{nil}
	for from := 0; most > 0; most-- {
		to := len(all)
		for _, l := range all[from:to] {
			for n := range 8 {
				x := read.Item{Term: 1 + n&1, Round: 1 + n>>1&1, Index: 1 + n>>2, Token: 9 - len(l)}
				all = append(all, append(append([]read.Item(nil), l...), x))
			}
		}
		from = to
	}
	return all
}

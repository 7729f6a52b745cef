package read_test

import (
	"fmt"
	"math"
	"slices"
	"testing"

	"tollbar/api"
	"tollbar/read"
)

// fails looks at a Fail, as the words say it.
func fails(t *testing.T, what string, q read.Queue, term int) {
	t.Helper()
	want, wantTokens := parted(q, func(x read.Item) bool { return x.Term != term })
	got, tokens := read.Fail(q, term)
	isParted(t, fmt.Sprintf("%s: Fail(%d)", what, term), got, tokens, want, wantTokens...)
}

// TestRE1Fail: items of that term stay, older and newer ones come out, in order; of none, some and all.
func TestRE1Fail(t *testing.T) {
	a := read.Item{Term: 3, Round: 9, Index: 9, Token: 50}
	b := read.Item{Term: 2, Round: 8, Index: 1, Token: 20}
	c := read.Item{Term: 4, Round: 1, Index: 8, Token: 40}
	d := read.Item{Term: 3, Round: 2, Index: 2, Token: 10}
	e := read.Item{Term: 1, Round: 1, Index: 1, Token: 30}
	q := of(6, a, b, c, d, e)
	for _, o := range []struct {
		term   int
		left   []read.Item
		tokens []int
	}{
		{3, []read.Item{a, d}, []int{20, 40, 30}},
		{2, []read.Item{b}, []int{50, 40, 10, 30}},
		{4, []read.Item{c}, []int{50, 20, 10, 30}},
		{1, []read.Item{e}, []int{50, 20, 40, 10}},
		{0, nil, []int{50, 20, 40, 10, 30}},
		{5, nil, []int{50, 20, 40, 10, 30}},
		{-3, nil, []int{50, 20, 40, 10, 30}},
		{math.MaxInt, nil, []int{50, 20, 40, 10, 30}},
		{math.MinInt, nil, []int{50, 20, 40, 10, 30}},
	} {
		left, tokens := read.Fail(q, o.term)
		isParted(t, fmt.Sprintf("Fail(%d)", o.term), left, tokens, of(6, o.left...), o.tokens...)
	}
	left, tokens := read.Fail(of(6, d, a), 3)
	isParted(t, "Fail of none", left, tokens, of(6, d, a))
	left, tokens = read.Fail(of(6), 3)
	isParted(t, "Fail of an empty one", left, tokens, of(6))
	left, tokens = read.Fail(of(6, b, b, e, b), 3)
	isParted(t, "Fail of all", left, tokens, of(6), 20, 20, 30, 20)
}

// TestRE1FailNumbers: rounds, indexes and tokens count for nothing, at both ends too; the term 0 is one as any other.
func TestRE1FailNumbers(t *testing.T) {
	for _, part := range parts() {
		for _, n := range good() {
			q := of(5, some(5)...)
			q.L[1], q.L[3] = with(q.L[1], part, n), with(q.L[3], part, n)
			for _, term := range append(append(good(), bad()...), 3, 4) {
				fails(t, part, q, term)
			}
		}
	}
}

// TestRE1FailAll: all queues that may be, but of the terms about those that they have.
func TestRE1FailAll(t *testing.T) {
	for name, q := range queues() {
		for term := -1; term < 6; term++ {
			fails(t, name, q, term)
		}
	}
	for _, l := range lists(3) {
		for term := range 4 {
			fails(t, fmt.Sprint(l), of(3, l...), term)
		}
	}
}

// rounds looks at Rounds, as the words say it.
func rounds(t *testing.T, what string, q read.Queue, term int) {
	t.Helper()
	has := map[int]bool{}
	for _, x := range q.L {
		if x.Term == term {
			has[x.Round] = true
		}
	}
	got := read.Rounds(q, term)
	for i, n := range got {
		if !has[n] || i > 0 && got[i-1] >= n {
			t.Errorf("%s: Rounds(%d): %s", what, term, short(got))
		}
	}
	if len(got) != len(has) {
		t.Errorf("%s: Rounds(%d): %s, not %d of them", what, term, short(got), len(has))
	}
}

// TestRE1Rounds: of a term with none, with one, with one more than once and not in order; of other terms nothing.
func TestRE1Rounds(t *testing.T) {
	var l []read.Item
	for i, n := range []int{5, 3, 5, 10, 3, 1, 10, 5, 9} {
		l = append(l, read.Item{Term: 2, Round: n, Index: 40 - i, Token: i}, read.Item{Term: 1 + i%3, Round: 20 + i, Token: n})
	}
	// Of the term 2 are the second, fifth and eighth of those beside too.
	q := of(30, l...)
	for _, o := range []struct {
		term int
		want []int
	}{
		{2, []int{1, 3, 5, 9, 10, 21, 24, 27}},
		{1, []int{20, 23, 26}},
		{3, []int{22, 25, 28}},
		{0, nil}, {4, nil}, {-2, nil}, {math.MaxInt, nil}, {math.MinInt, nil},
	} {
		if got := read.Rounds(q, o.term); !slices.Equal(got, o.want) {
			t.Errorf("Rounds(%d): %v, not %v", o.term, got, o.want)
		}
	}
	if got := read.Rounds(of(3), 1); len(got) != 0 {
		t.Errorf("Rounds of an empty one: %v", got)
	}
	x := read.Item{Term: 6, Round: 7}
	if got := read.Rounds(of(4, x, x, x, x), 6); !slices.Equal(got, []int{7}) {
		t.Errorf("Rounds of the same four times: %v", got)
	}
}

// TestRE1RoundsEnds: rounds at both ends, as numbers and not as texts or smaller numbers.
func TestRE1RoundsEnds(t *testing.T) {
	for _, term := range []int{0, 1, api.MaxIndex} {
		l := []read.Item{{Term: 5, Round: 6}}
		for _, n := range append(good(), good()...) {
			l = append([]read.Item{{Term: term, Round: n}}, l...)
		}
		if got := read.Rounds(of(len(l), l...), term); !slices.Equal(got, good()) {
			t.Errorf("Rounds(%d): %v, not %v", term, got, good())
		}
	}
}

// TestRE1RoundsAll: all queues that may be, of the terms about those that they have.
func TestRE1RoundsAll(t *testing.T) {
	for name, q := range queues() {
		for term := -1; term < 6; term++ {
			rounds(t, name, q, term)
		}
		for _, term := range append(good(), bad()...) {
			rounds(t, name, q, term)
		}
	}
	for _, l := range lists(3) {
		for term := range 4 {
			rounds(t, fmt.Sprint(l), of(3, l...), term)
		}
	}
}

package read_test

import (
	"fmt"
	"math"
	"slices"
	"testing"

	"tollbar/api"
	"tollbar/read"
)

// parts are an item's numbers, by name.
func parts() []string { return []string{"Term", "Round", "Index", "Token"} }

// with is an item, one of whose numbers is another one.
func with(x read.Item, part string, n int) read.Item {
	switch part {
	case "Term":
		x.Term = n
	case "Round":
		x.Round = n
	case "Index":
		x.Index = n
	default:
		x.Token = n
	}
	return x
}

// good are numbers that an item may have: about both ends, and about those of smaller numbers.
func good() []int {
	return []int{0, 1, 2, 1<<31 - 1, 1 << 31, 1<<32 - 1, 1 << 32, 1<<32 + 1, api.MaxIndex - 1, api.MaxIndex}
}

// bad are numbers that no item may have: about both ends, and those that a smaller number would have for one.
func bad() []int {
	return []int{
		math.MinInt, math.MinInt + 1, math.MinInt + 2, -1 << 48, 2 - 1<<48, -api.MaxIndex - 1, -api.MaxIndex, -1 << 32, 1 - 1<<32, -2, -1,
		api.MaxIndex + 1, api.MaxIndex + 2, 2 * api.MaxIndex, 1 << 48, 1<<48 + 2, math.MaxInt - 1, math.MaxInt,
	}
}

// limits are limits that may be.
func limits() []int { return []int{1, 2, 3, 7, 64, 1024, api.MaxList - 1, api.MaxList} }

// noLimits are limits that may not be.
func noLimits() []int {
	return []int{
		math.MinInt, math.MinInt + 1, math.MinInt + 7, 7 - 1<<32, -api.MaxList, -7, -2, -1, 0,
		api.MaxList + 1, api.MaxList + 2, 2 * api.MaxList, 1 << 16, 1<<16 + 7, 1 << 32, 1<<32 + 7, api.MaxIndex, math.MaxInt - 1, math.MaxInt,
	}
}

// some are so many items that may be, of which none is another one.
func some(n int) []read.Item {
	var l []read.Item
	for i := range n {
		l = append(l, read.Item{Term: 1 + i%3, Round: 1 + i*7%11, Index: i * 5 % 13, Token: 100 + i})
	}
	return l
}

// of is a queue of that limit and these items.
func of(limit int, l ...read.Item) read.Queue { return read.Queue{Limit: limit, L: l} }

// noQueues are queues that may not be, by why.
func noQueues() map[string]read.Queue {
	m := map[string]read.Queue{"zero": {}}
	for _, n := range noLimits() {
		m[fmt.Sprint("limit ", n)] = of(n)
		m[fmt.Sprint("limit ", n, ", items")] = of(n, some(3)...)
	}
	for _, n := range limits() {
		m[fmt.Sprint("one more than ", n)] = of(n, some(n+1)...)
		m[fmt.Sprint("many more than ", n)] = of(n, some(2*n+9)...)
	}
	for at, where := range []string{"first", "middle", "last"} {
		for _, part := range parts() {
			for _, n := range bad() {
				l := some(3)
				l[at] = with(l[at], part, n)
				m[fmt.Sprintf("%s %d in the %s", part, n, where)] = of(3, l...)
				m[fmt.Sprintf("%s %d in the %s, with room", part, n, where)] = of(9, l...)
			}
		}
	}
	for _, part := range parts() {
		l := some(api.MaxList)
		l[api.MaxList-1] = with(l[api.MaxList-1], part, -1)
		m["full, of the last item below 0 "+part] = of(api.MaxList, l...)
		m["alone, below 0 "+part] = of(1, with(some(1)[0], part, -1))
	}
	return m
}

// queues are queues that may be, by what they have.
func queues() map[string]read.Queue {
	m := map[string]read.Queue{"empty": {Limit: 4, L: []read.Item{}}, "noughts": of(2, read.Item{}, read.Item{})}
	for _, n := range limits() {
		m[fmt.Sprint("limit ", n, ", none")] = of(n)
		m[fmt.Sprint("limit ", n, ", full")] = of(n, some(n)...)
		m[fmt.Sprint("limit ", n, ", one less")] = of(n, some(n-1)...)
	}
	for at, where := range []string{"first", "middle", "last"} {
		for _, part := range parts() {
			for _, n := range good() {
				l := some(3)
				l[at] = with(l[at], part, n)
				m[fmt.Sprintf("%s %d in the %s", part, n, where)] = of(3, l...)
			}
		}
	}
	for _, n := range good() {
		m[fmt.Sprint("all numbers ", n)] = of(5, slices.Repeat([]read.Item{{Term: n, Round: n, Index: n, Token: n}}, 5)...)
	}
	return m
}

// same tells whether two queues are the same.
func same(a, b read.Queue) bool { return a.Limit == b.Limit && slices.Equal(a.L, b.L) }

// none tells whether a queue is the zero one.
func none(q read.Queue) bool { return same(q, read.Queue{}) }

// show tells a queue, of many items the first ones.
func show(q read.Queue) string {
	return fmt.Sprint("a limit of ", q.Limit, " and ", short(q.L))
}

// short tells a list, of many the first ones.
func short[T any](l []T) string {
	if len(l) > 9 {
		return fmt.Sprintf("%v.. (%d)", l[:9], len(l))
	}
	return fmt.Sprint(l)
}

// isParted looks at what Take or Fail tells.
func isParted(t *testing.T, what string, q read.Queue, tokens []int, want read.Queue, wantTokens ...int) {
	t.Helper()
	if !same(q, want) || !slices.Equal(tokens, wantTokens) {
		t.Errorf("%s: %s, %s, not %s, %s", what, show(q), short(tokens), show(want), short(wantTokens))
	}
}

// TestExample: the document's example.
func TestExample(t *testing.T) {
	x := read.Item{Term: 1, Round: 3, Index: 5, Token: 9}
	q, err := read.Add(of(2), x)
	if err != nil || !same(q, of(2, x)) {
		t.Fatalf("Add: %v, %v", q, err)
	}
	left, tokens := read.Take(q, 1, 3, 4)
	isParted(t, "With 4 applied", left, tokens, of(2, x))
	left, tokens = read.Take(q, 1, 3, 5)
	isParted(t, "With 5 applied", left, tokens, of(2), 9)
}

// TestRE1Check: queues that may be, and each way in which they may not.
func TestRE1Check(t *testing.T) {
	for name, q := range queues() {
		if err := read.Check(q); err != nil {
			t.Errorf("%s: %v", name, err)
		}
	}
	for name, q := range noQueues() {
		if err := read.Check(q); err != api.ErrArg {
			t.Errorf("%s: %v", name, err)
		}
	}
}

// TestRE1CheckLimit: each limit about its bounds, of no item, of as many items, and of one less and one more.
func TestRE1CheckLimit(t *testing.T) {
	l := some(api.MaxList + 3)
	for limit := -3; limit <= api.MaxList+3; limit++ {
		for _, n := range []int{0, 1, limit - 1, limit, limit + 1} {
			if n < 0 || n > len(l) {
				continue
			}
			may := limit >= 1 && limit <= 4096 && n <= limit
			if err := read.Check(of(limit, l[:n]...)); (err == nil) != may || !may && err != api.ErrArg {
				t.Errorf("Limit %d, %d items: %v", limit, n, err)
			}
		}
	}
}

// TestRE1CheckEach: a number that may not be, in each item of a full queue.
func TestRE1CheckEach(t *testing.T) {
	for at := range 40 {
		for _, part := range parts() {
			l := some(40)
			for _, n := range []int{-1, api.MaxIndex + 1} {
				l[at] = with(l[at], part, n)
				if err := read.Check(of(40, l...)); err != api.ErrArg {
					t.Errorf("%s %d of the item %d: %v", part, n, at, err)
				}
			}
			for _, n := range []int{0, api.MaxIndex} {
				l[at] = with(l[at], part, n)
				if err := read.Check(of(40, l...)); err != nil {
					t.Errorf("%s %d of the item %d: %v", part, n, at, err)
				}
			}
		}
	}
}

// TestRE1NoQueue: every call, of queues that may not be.
func TestRE1NoQueue(t *testing.T) {
	for name, q := range noQueues() {
		for _, x := range append(some(3), with(some(1)[0], "Token", -1)) {
			if got, err := read.Add(q, x); err != api.ErrArg || !none(got) {
				t.Errorf("%s: Add of %v: %s, %v", name, x, show(got), err)
			}
		}
		for _, term := range []int{-1, 0, 1, 2, 3, 9, math.MaxInt, math.MinInt} {
			for _, upTo := range []int{math.MinInt, 0, api.MaxIndex, math.MaxInt} {
				if got, tokens := read.Take(q, term, upTo, upTo); !none(got) || len(tokens) > 0 {
					t.Errorf("%s: Take of the term %d, up to %d: %s, %s", name, term, upTo, show(got), short(tokens))
				}
			}
			if got, tokens := read.Fail(q, term); !none(got) || len(tokens) > 0 {
				t.Errorf("%s: Fail but of the term %d: %s, %s", name, term, show(got), short(tokens))
			}
			if rounds := read.Rounds(q, term); len(rounds) > 0 {
				t.Errorf("%s: Rounds of the term %d: %s", name, term, short(rounds))
			}
		}
	}
}

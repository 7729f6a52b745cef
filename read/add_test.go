package read_test

import (
	"fmt"
	"slices"
	"testing"

	"tollbar/api"
	"tollbar/read"
)

// isAdded looks at a queue with an item more.
func isAdded(t *testing.T, what string, q read.Queue, x read.Item) {
	t.Helper()
	want := of(q.Limit, append(slices.Clone(q.L), x)...)
	if got, err := read.Add(q, x); err != nil || !same(got, want) {
		t.Errorf("%s: %s, %v, not %s", what, show(got), err, show(want))
	}
}

// isRefused looks at an item that was not added.
func isRefused(t *testing.T, what string, q read.Queue, x read.Item, want api.Errno) {
	t.Helper()
	if got, err := read.Add(q, x); err != want || !none(got) {
		t.Errorf("%s: %s, %v, not %v", what, show(got), err, want)
	}
}

// TestRE1Add: items of numbers that may be, to a queue with none, with some and with one less than its limit: they stand behind the others.
func TestRE1Add(t *testing.T) {
	for _, limit := range limits() {
		for _, has := range []int{0, limit / 2, limit - 1} {
			q := of(limit, some(has)...)
			for _, x := range []read.Item{{}, {Term: 7, Round: 8, Index: 9, Token: 10}, {Term: api.MaxIndex, Round: api.MaxIndex, Index: api.MaxIndex, Token: api.MaxIndex}} {
				isAdded(t, fmt.Sprintf("%v to %d of %d", x, has, limit), q, x)
			}
			for _, part := range parts() {
				for _, n := range good() {
					x := with(read.Item{Term: 7, Round: 8, Index: 9, Token: 10}, part, n)
					isAdded(t, fmt.Sprintf("%v to %d of %d", x, has, limit), q, x)
				}
			}
		}
	}
}

// TestRE1AddBad: an item with a number that may not be, also where there is no room: that is named first.
func TestRE1AddBad(t *testing.T) {
	for _, limit := range limits() {
		for _, has := range []int{0, limit / 2, limit - 1, limit} {
			q := of(limit, some(has)...)
			for _, part := range parts() {
				for _, n := range bad() {
					x := with(read.Item{Term: 7, Round: 8, Index: 9, Token: 10}, part, n)
					isRefused(t, fmt.Sprintf("%v to %d of %d", x, has, limit), q, x, api.ErrArg)
				}
			}
		}
	}
}

// TestRE1AddFull: to a queue that has as many as its limit.
func TestRE1AddFull(t *testing.T) {
	for _, limit := range limits() {
		q := of(limit, some(limit)...)
		for _, part := range parts() {
			for _, n := range good() {
				x := with(read.Item{Term: 7, Round: 8, Index: 9, Token: 10}, part, n)
				isRefused(t, fmt.Sprintf("%v to %d", x, limit), q, x, api.ErrBusy)
			}
		}
		isRefused(t, fmt.Sprint("The first one again to ", limit), q, q.L[0], api.ErrBusy)
	}
}

// TestRE1AddNoQueue: to a queue that may not be, also where its items are as many as its limit, and where the item may not be either.
func TestRE1AddNoQueue(t *testing.T) {
	for name, q := range noQueues() {
		isRefused(t, name, q, read.Item{}, api.ErrArg)
		isRefused(t, name, q, read.Item{Token: -1}, api.ErrArg)
	}
	for _, limit := range noLimits() {
		if limit >= 0 && limit <= 1<<16 {
			isRefused(t, fmt.Sprint("Full, limit ", limit), of(limit, some(limit)...), read.Item{}, api.ErrArg)
		}
	}
}

// TestRE1AddTwice: an item that is there already is one more.
func TestRE1AddTwice(t *testing.T) {
	x := read.Item{Term: 1, Round: 2, Index: 3, Token: 4}
	q := of(3)
	for n := range 3 {
		isAdded(t, fmt.Sprint("Again, behind ", n), q, x)
		q, _ = read.Add(q, x)
	}
	isRefused(t, "Again, behind 3", q, x, api.ErrBusy)
	left, tokens := read.Take(q, 1, 2, 3)
	isParted(t, "Take", left, tokens, of(3), 4, 4, 4)
}

// TestRE1AddUp: from none up to the limit, one by one, in the order in which they came, and not one more.
func TestRE1AddUp(t *testing.T) {
	for _, limit := range []int{1, 2, 3, 7, 64, 300} {
		l := some(limit + 1)
		q := of(limit)
		for i, x := range l[:limit] {
			var err error
			if q, err = read.Add(q, x); err != nil || !same(q, of(limit, l[:i+1]...)) {
				t.Fatalf("Behind %d of %d: %s, %v", i, limit, show(q), err)
			}
		}
		isRefused(t, fmt.Sprint("One more than ", limit), q, l[limit], api.ErrBusy)
		// Where one has gone there is room again.
		q, _ = read.Fail(q, 1)
		for has := len(q.L); has < limit; has++ {
			isAdded(t, fmt.Sprintf("Again %d of %d", has, limit), q, l[limit])
			q, _ = read.Add(q, l[limit])
		}
		isRefused(t, fmt.Sprint("Again one more than ", limit), q, l[limit], api.ErrBusy)
	}
}

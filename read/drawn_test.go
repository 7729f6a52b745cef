package read_test

import (
	"fmt"
	"math/rand"
	"slices"
	"testing"

	"tollbar/api"
	"tollbar/read"
)

// place is where an item is.
type place int

const (
	waits place = iota
	taken
	failed
	refused
)

// run is a queue on its way, and where each item of it is: an item's token is its number here.
type run struct {
	r                    *rand.Rand
	q                    read.Queue
	items                []read.Item
	at                   []place
	term, heard, applied int // as a leader has them
	round                int // the one begun last
}

// newRun is one of an empty queue.
func newRun(r *rand.Rand) *run {
	limit := 1 + r.Intn(12)
	if r.Intn(10) == 0 {
		limit = 1 + r.Intn(api.MaxList)
	}
	return &run{r: r, q: of(limit), term: r.Intn(3)}
}

// waiting are those that wait, in the order in which they came.
func (w *run) waiting() []read.Item {
	var l []read.Item
	for i, p := range w.at {
		if p == waits {
			l = append(l, w.items[i])
		}
	}
	return l
}

// holds looks at that all that wait, and nothing else, are in the queue, in the order in which they came.
func (w *run) holds(t *testing.T, what string) {
	t.Helper()
	if want := of(w.q.Limit, w.waiting()...); !same(w.q, want) || read.Check(w.q) != nil {
		t.Fatalf("%s: %s, not %s", what, show(w.q), show(want))
	}
}

// add takes an item in, mostly one that a leader would.
func (w *run) add(t *testing.T) {
	t.Helper()
	x := read.Item{Term: w.term, Round: w.round, Index: w.applied + w.r.Intn(4), Token: len(w.items)}
	switch w.r.Intn(8) {
	case 0, 1:
		w.round++
		x.Round = w.round
	case 2:
		x.Term = max(0, w.term-1+w.r.Intn(3))
	case 3:
		x.Round, x.Index = w.r.Intn(w.round+4), w.r.Intn(w.applied+4)
	case 4:
		w.wrong(t, x)
		return
	}
	got, err := read.Add(w.q, x)
	full := len(w.waiting()) == w.q.Limit
	if full && (err != api.ErrBusy || !none(got)) || !full && err != nil {
		t.Fatalf("Add of %v to %s: %s, %v", x, show(w.q), show(got), err)
	}
	w.items, w.at = append(w.items, x), append(w.at, waits)
	if full {
		w.at[x.Token] = refused
		return
	}
	w.q = got
}

// wrong is an item that may not be: it never comes in.
func (w *run) wrong(t *testing.T, x read.Item) {
	t.Helper()
	x = with(x, parts()[w.r.Intn(4)], bad()[w.r.Intn(len(bad()))])
	if got, err := read.Add(w.q, x); err != api.ErrArg || !none(got) {
		t.Fatalf("Add of %v: %s, %v", x, show(got), err)
	}
}

// out marks those that came out, each of which waited, and was to come; and the others were not.
func (w *run) out(t *testing.T, what string, got read.Queue, tokens []int, to place, due func(x read.Item) bool) {
	t.Helper()
	last := -1
	for _, n := range tokens {
		if n <= last || n >= len(w.at) || w.at[n] != waits || !due(w.items[n]) {
			t.Fatalf("%s of %s: %s, of which %d was not to come", what, show(w.q), short(tokens), n)
		}
		w.at[n], last = to, n
	}
	if l := w.waiting(); slices.ContainsFunc(l, due) {
		t.Fatalf("%s of %s: %s; %s wait", what, show(w.q), short(tokens), short(l))
	}
	w.q = got
}

// take is a Take, mostly of what a leader knows.
func (w *run) take(t *testing.T) {
	t.Helper()
	term, heard, applied := w.term, w.heard, w.applied
	switch w.r.Intn(8) {
	case 0:
		term += 1 - 2*w.r.Intn(2)
	case 1:
		heard = w.r.Intn(w.round + 3)
	case 2:
		applied = w.r.Intn(w.applied + 3)
	case 3:
		heard, applied = heard-1, applied-1
	}
	got, tokens := read.Take(w.q, term, heard, applied)
	w.out(t, fmt.Sprintf("Take(%d, %d, %d)", term, heard, applied), got, tokens, taken, func(x read.Item) bool {
		return x.Term == term && x.Round <= heard && x.Index <= applied
	})
}

// fail is a Fail but of the term that is now.
func (w *run) fail(t *testing.T) {
	t.Helper()
	got, tokens := read.Fail(w.q, w.term)
	w.out(t, fmt.Sprintf("Fail(%d)", w.term), got, tokens, failed, func(x read.Item) bool { return x.Term != w.term })
}

// step does one thing.
func (w *run) step(t *testing.T) {
	t.Helper()
	switch w.r.Intn(12) {
	case 0, 1, 2, 3, 4:
		w.add(t)
	case 5, 6, 7:
		w.take(t)
	case 8:
		w.heard = min(w.round, w.heard+w.r.Intn(3))
	case 9:
		w.applied += w.r.Intn(3)
	case 10:
		for term := w.term - 1; term <= w.term+1; term++ {
			rounds(t, "Drawn", w.q, term)
		}
	default:
		if w.r.Intn(3) == 0 {
			w.term++
		}
		w.fail(t)
	}
}

// TestRE2Drawn: drawn runs: each item that was taken in comes out once or waits; by Take none comes out whose round was not heard, or whose index was not applied.
func TestRE2Drawn(t *testing.T) {
	r := rand.New(rand.NewSource(14))
	var count [4]int
	for n := range 1500 {
		w := newRun(r)
		for range r.Intn(150) {
			w.step(t)
			w.holds(t, fmt.Sprint("The run ", n))
		}
		// At last all come out: those of the term that is now by Take, the others by Fail.
		w.fail(t)
		w.holds(t, "Behind the last Fail")
		got, tokens := read.Take(w.q, w.term, api.MaxIndex, api.MaxIndex)
		w.out(t, "The last Take", got, tokens, taken, func(x read.Item) bool { return true })
		w.holds(t, "Behind the last Take")
		for _, p := range w.at {
			count[p]++
		}
	}
	if count[waits] > 0 || slices.Min(count[taken:]) < 1000 {
		t.Errorf("So many that wait, were taken, failed and refused: %v", count)
	}
}

// TestRE2Again: what came out does not come out again, and what is left comes out as if it alone had been there.
func TestRE2Again(t *testing.T) {
	for name, q := range queues() {
		for term := range 4 {
			left, first := read.Take(q, term, 5, 6)
			again, second := read.Take(left, term, 5, 6)
			isParted(t, name+": Take again", again, second, left)
			kept, others := read.Fail(left, term)
			again, second = read.Fail(kept, term)
			isParted(t, name+": Fail again", again, second, kept)
			last, rest := read.Take(kept, term, api.MaxIndex, api.MaxIndex)
			if len(last.L) > 0 || last.Limit != q.Limit || len(first)+len(others)+len(rest) != len(q.L) {
				t.Errorf("%s: %s; of %s are %s, %s and %s", name, show(last), show(q), short(first), short(others), short(rest))
			}
			isAll(t, name, q, first, others, rest)
		}
	}
}

// isAll looks at that tokens are those of a queue, each as often.
func isAll(t *testing.T, what string, q read.Queue, tokens ...[]int) {
	t.Helper()
	var want []int
	for _, x := range q.L {
		want = append(want, x.Token)
	}
	got := slices.Concat(tokens...)
	slices.Sort(got)
	slices.Sort(want)
	if !slices.Equal(got, want) {
		t.Errorf("%s: %s, not %s", what, short(got), short(want))
	}
}

// TestRE1Drawn: drawn queues of few numbers, held against the words.
func TestRE1Drawn(t *testing.T) {
	r := rand.New(rand.NewSource(41))
	for n := range 4000 {
		l := make([]read.Item, r.Intn(30))
		for i := range l {
			l[i] = read.Item{Term: r.Intn(4), Round: r.Intn(8), Index: r.Intn(8), Token: r.Intn(1000)}
		}
		q := of(max(1, len(l)+r.Intn(5)), l...)
		what := fmt.Sprint("Drawn ", n)
		for range 5 {
			takes(t, what, q, r.Intn(5), r.Intn(10)-1, r.Intn(10)-1)
			fails(t, what, q, r.Intn(5))
			rounds(t, what, q, r.Intn(5))
		}
	}
}

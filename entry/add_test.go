package entry_test

import (
	"fmt"
	"math"
	"slices"
	"testing"

	"tollbar/api"
	"tollbar/entry"
)

// adds adds, and must.
func adds(t *testing.T, l entry.Log, term, kind int, data string) entry.Log {
	t.Helper()
	got, err := entry.Add(l, term, kind, []byte(data))
	if err != nil {
		t.Fatalf("Add of %d, %d, %q to %s: %v", term, kind, short(data), short(shown(l)), err)
	}
	return got
}

// unadded looks at an Add that must fail.
func unadded(t *testing.T, l entry.Log, term, kind int, data []byte, want api.Errno) {
	t.Helper()
	if got, err := entry.Add(l, term, kind, data); err != want || shown(got) != "0/0:" {
		t.Errorf("Add of %d, %d, %d bytes to %s: %s, %v, not %v", term, kind, len(data), short(shown(l)), short(shown(got)), err, want)
	}
}

// TestEN1Add: the entry stands behind, and all else is as it was; its term is from the last one's on.
func TestEN1Add(t *testing.T) {
	for name, l := range logs() {
		last, least := l.Base, l.Term
		if n := len(l.L); n > 0 {
			last, least = l.L[n-1].Index, l.L[n-1].Term
		}
		if last == api.MaxIndex || len(l.L) == api.MaxList {
			continue
		}
		for _, term := range []int{max(least, 1), min(least+1, api.MaxIndex), api.MaxIndex} {
			for kind := range 3 {
				for _, s := range []string{"", "x", "\x00\xff"} {
					want := entry.Log{Base: l.Base, Term: l.Term, L: copied(l.L)}
					want.L = append(want.L, entry.Entry{Index: last + 1, Term: term, Kind: kind, Data: []byte(s)})
					isLog(t, "Add to "+name, adds(t, l, term, kind, s), want)
				}
			}
		}
		for _, term := range []int{math.MinInt, -1, 0, least - 1, max(least, 1) - 1, api.MaxIndex + 1, math.MaxInt} {
			unadded(t, l, term, entry.Order, nil, api.ErrArg)
		}
	}
}

// TestEN1AddData: data of as many bytes as may be, and of more; none is none, nil or not.
func TestEN1AddData(t *testing.T) {
	for _, n := range []int{1, mostData - 1, mostData} {
		isLog(t, "Add", adds(t, entry.Log{}, 1, entry.Member, string(data(n))), entry.Log{L: []entry.Entry{{Index: 1, Term: 1, Kind: entry.Member, Data: data(n)}}})
	}
	for _, n := range []int{mostData + 1, mostData + 2, 2 * mostData, api.MaxBytes} {
		unadded(t, entry.Log{}, 1, entry.Member, data(n), api.ErrLong)
	}
	for _, b := range [][]byte{nil, {}} {
		got, err := entry.Add(logOf(2, 1, 1), 3, entry.Empty, b)
		want := logOf(2, 1, 1)
		want.L = append(want.L, entry.Entry{Index: 4, Term: 3})
		if err != nil {
			t.Errorf("Add: %v", err)
		}
		isLog(t, "Add of none", got, want)
	}
}

// TestEN1AddKinds: what is no kind.
func TestEN1AddKinds(t *testing.T) {
	for _, kind := range noKinds() {
		unadded(t, entry.Log{}, 1, kind, nil, api.ErrArg)
		unadded(t, logOf(5, 3, 4), 4, kind, nil, api.ErrArg)
	}
}

// TestEN1AddErrors: which error is told where several apply.
func TestEN1AddErrors(t *testing.T) {
	full, end := long(0, 0, api.MaxList), entry.Log{Base: api.MaxIndex, Term: 2}
	both := long(api.MaxIndex-api.MaxList, 2, api.MaxList)
	some, much := data(1), data(mostData+1)
	unadded(t, full, 1, entry.Order, some, api.ErrFull)
	unadded(t, full, 1, entry.Order, data(mostData), api.ErrFull)
	unadded(t, full, 1, entry.Order, much, api.ErrLong)
	unadded(t, full, 0, entry.Order, some, api.ErrArg)
	unadded(t, full, api.MaxIndex+1, entry.Order, some, api.ErrArg)
	unadded(t, full, 1, 3, some, api.ErrArg)
	unadded(t, full, 0, entry.Order, much, api.ErrArg)
	unadded(t, full, 1, 3, much, api.ErrArg)
	unadded(t, logOf(5, 3, 4), 3, entry.Order, much, api.ErrArg)
	unadded(t, logOf(5, 3, 4), 4, -1, much, api.ErrArg)
	for _, l := range []entry.Log{end, both, logOf(api.MaxIndex-1, 2, 2)} {
		unadded(t, l, 2, entry.Order, some, api.ErrArg)
		unadded(t, l, 2, entry.Order, much, api.ErrArg)
		unadded(t, l, 1, 3, some, api.ErrArg)
	}
}

// TestEN1AddUpTo: one entry behind the other, till there are MaxList, and till MaxIndex.
func TestEN1AddUpTo(t *testing.T) {
	l := long(9, 2, api.MaxList-2)
	l = adds(t, l, 2, entry.Empty, "a")
	l = adds(t, l, 3, entry.Order, "b")
	unadded(t, l, 3, entry.Order, nil, api.ErrFull)
	want := long(9, 2, api.MaxList-2)
	want.L = append(want.L, entry.Entry{Index: 8 + api.MaxList, Term: 2, Kind: entry.Empty, Data: []byte("a")})
	want.L = append(want.L, entry.Entry{Index: 9 + api.MaxList, Term: 3, Kind: entry.Order, Data: []byte("b")})
	isLog(t, "Add", l, want)

	l = entry.Log{Base: api.MaxIndex - 2, Term: 1}
	l = adds(t, l, 1, entry.Empty, "a")
	l = adds(t, l, api.MaxIndex, entry.Order, "b")
	unadded(t, l, api.MaxIndex, entry.Order, nil, api.ErrArg)
	isLog(t, "Add", l, entry.Log{Base: api.MaxIndex - 2, Term: 1, L: []entry.Entry{
		{Index: api.MaxIndex - 1, Term: 1, Data: []byte("a")}, {Index: api.MaxIndex, Term: api.MaxIndex, Kind: entry.Order, Data: []byte("b")},
	}})
}

// TestEN1AddNew: the first one of a new log has the index 1, of whatever term.
func TestEN1AddNew(t *testing.T) {
	for _, term := range []int{1, 2, 1 << 39, api.MaxIndex} {
		isLog(t, "Add", adds(t, entry.Log{}, term, entry.Order, "x"), entry.Log{L: []entry.Entry{{Index: 1, Term: term, Kind: entry.Order, Data: []byte("x")}}})
	}
	for _, term := range noCounts() {
		unadded(t, entry.Log{}, term, entry.Order, nil, api.ErrArg)
	}
}

// TestEN3From: the entries from an index on, at most so many.
func TestEN3From(t *testing.T) {
	for name, l := range logs() {
		for _, index := range append(indexes(l), l.Base+5, l.Base+100) {
			for _, most := range []int{math.MinInt, -1, 0, 1, 2, 3, 4, len(l.L) - 1, len(l.L), len(l.L) + 1, math.MaxInt} {
				var want []entry.Entry
				for _, e := range l.L {
					if index > l.Base && e.Index >= index && len(want) < most {
						want = append(want, e)
					}
				}
				if got := entry.From(l, index, most); listed(got) != listed(want) {
					t.Errorf("From of %s, %d, %d: %s, not %s", name, index, most, short(listed(got)), short(listed(want)))
				}
			}
		}
	}
}

// TestEN3Compact: what is behind an index stays, and its term is kept.
func TestEN3Compact(t *testing.T) {
	for _, x := range []struct {
		l, want entry.Log
		index   int
	}{
		{entry.Log{}, entry.Log{}, 0},
		{logOf(0, 0, 1, 1, 2), logOf(0, 0, 1, 1, 2), 0},
		{logOf(0, 0, 1, 1, 2), logOf(1, 1, 1, 2), 1},
		{logOf(0, 0, 1, 1, 2), logOf(2, 1, 2), 2},
		{logOf(0, 0, 1, 1, 2), entry.Log{Base: 3, Term: 2}, 3},
		{entry.Log{Base: 5, Term: 3}, entry.Log{Base: 5, Term: 3}, 5},
		{logOf(5, 3, 4, 4, 9), logOf(5, 3, 4, 4, 9), 5},
		{logOf(5, 3, 4, 4, 9), logOf(6, 4, 4, 9), 6},
		{logOf(5, 3, 4, 4, 9), logOf(7, 4, 9), 7},
		{logOf(5, 3, 4, 4, 9), entry.Log{Base: 8, Term: 9}, 8},
		{logOf(api.MaxIndex-2, 3, 4, api.MaxIndex), entry.Log{Base: api.MaxIndex, Term: api.MaxIndex}, api.MaxIndex},
		{long(9, 2, api.MaxList), long(10, 2, api.MaxList-1), 10},
		{long(9, 2, api.MaxList), long(8+api.MaxList, 2, 1), 8 + api.MaxList},
	} {
		got, err := entry.Compact(x.l, x.index)
		if err != nil {
			t.Errorf("Compact of %s, %d: %v", short(shown(x.l)), x.index, err)
		}
		isLog(t, fmt.Sprintf("Compact of %s, %d", short(shown(x.l)), x.index), got, x.want)
	}
}

// TestEN3CompactErrors: an index that is not there, and one that was let go already.
func TestEN3CompactErrors(t *testing.T) {
	for name, l := range logs() {
		last := l.Base + len(l.L)
		for _, index := range []int{math.MinInt, -1, last + 1, last + 2, api.MaxIndex + 1, math.MaxInt} {
			if got, err := entry.Compact(l, index); err != api.ErrNone || shown(got) != "0/0:" {
				t.Errorf("Compact of %s, %d: %s, %v", name, index, short(shown(got)), err)
			}
		}
		for _, index := range []int{0, 1, l.Base - 2, l.Base - 1} {
			if index < 0 || index >= l.Base {
				continue
			}
			if got, err := entry.Compact(l, index); err != api.ErrOld || shown(got) != "0/0:" {
				t.Errorf("Compact of %s, %d: %s, %v", name, index, short(shown(got)), err)
			}
		}
	}
}

// TestEN3CompactOn: a log of which some was let go goes on: what is asked of the rest is as it was.
func TestEN3CompactOn(t *testing.T) {
	l := logOf(5, 3, 4, 4, 9)
	less, err := entry.Compact(l, 7)
	if err != nil {
		t.Fatal(err)
	}
	more := adds(t, less, 9, entry.Order, "x")
	if got, err := entry.At(more, 9); err != nil || told(got) != told(entry.Entry{Index: 9, Term: 9, Kind: entry.Order, Data: []byte("x")}) {
		t.Errorf("At: %s, %v", told(got), err)
	}
	if got := entry.From(more, 8, 1); listed(got) != listed(row(7, 9)) {
		t.Errorf("From: %s", listed(got))
	}
	if _, err := entry.Term(more, 6); err != api.ErrOld {
		t.Errorf("Term: %v", err)
	}
	again, err := entry.Compact(more, 8)
	if err != nil || again.Base != 8 || again.Term != 9 || len(again.L) != 1 {
		t.Errorf("Compact again: %s, %v", shown(again), err)
	}
	full := long(9, 2, api.MaxList)
	unadded(t, full, 2, entry.Order, nil, api.ErrFull)
	less, err = entry.Compact(full, 10)
	if err != nil {
		t.Fatal(err)
	}
	if l := adds(t, less, 2, entry.Order, ""); len(l.L) != api.MaxList || l.L[api.MaxList-1].Index != 10+api.MaxList {
		t.Errorf("Add behind Compact: %s", short(shown(l)))
	}
}

// TestEN3Newer: at each bound of a last index and term.
func TestEN3Newer(t *testing.T) {
	for _, l := range []entry.Log{{}, {Base: 5, Term: 3}, logOf(0, 0, 1, 3, 3), logOf(5, 3, 3, 7), logOf(api.MaxIndex-1, 2, api.MaxIndex), long(9, 2, api.MaxList)} {
		last, least := l.Base, l.Term
		if n := len(l.L); n > 0 {
			last, least = l.L[n-1].Index, l.L[n-1].Term
		}
		below := []int{math.MinInt, -1, last - 2, last - 1}
		from := []int{last, last + 1, api.MaxIndex + 1, math.MaxInt}
		for _, index := range slices.Concat(below, from) {
			newer := func(term int, want bool) {
				if got := entry.Newer(l, index, term); got != want {
					t.Errorf("Newer of %s, %d, %d: %v", short(shown(l)), index, term, got)
				}
			}
			newer(least-1, false)
			newer(math.MinInt, false)
			newer(least+1, true)
			newer(math.MaxInt, true)
			newer(least, index >= last)
		}
	}
}

package entry_test

import (
	"fmt"
	"math"
	"slices"
	"testing"

	"tollbar/api"
	"tollbar/entry"
)

// merge is a Merge, and what it must answer.
type merge struct {
	l           entry.Log
	index, term int
	more        []entry.Entry
	want        entry.Log
	last        int
	ok          bool
}

// merges looks at a Merge; at one that is done also at that it changes nothing if it is done again.
func (m merge) merges(t *testing.T) {
	t.Helper()
	what := fmt.Sprintf("Merge of %s behind %d of %d to %s", short(listed(m.more)), m.index, m.term, short(shown(m.l)))
	got, last, ok := entry.Merge(m.l, m.index, m.term, m.more)
	if last != m.last || ok != m.ok {
		t.Errorf("%s: %d, %v, not %d, %v", what, last, ok, m.last, m.ok)
	}
	isLog(t, what, got, m.want)
	if !m.ok {
		return
	}
	got, last, ok = entry.Merge(got, m.index, m.term, m.more)
	if last != m.last || !ok {
		t.Errorf("%s again: %d, %v, not %d", what, last, ok, m.last)
	}
	isLog(t, what+" again", got, m.want)
}

// done is a Merge that is done.
func done(l entry.Log, index, term int, more []entry.Entry, want entry.Log, last int) merge {
	return merge{l, index, term, more, want, last, true}
}

// not is a Merge that changes nothing.
func not(l entry.Log, index, term int, more []entry.Entry, last int) merge {
	return merge{l, index, term, more, l, last, false}
}

// TestEN2Below: an index below 0, whatever else.
func TestEN2Below(t *testing.T) {
	for _, l := range []entry.Log{{}, logOf(0, 0, 1, 1, 2), logOf(5, 3, 3, 4)} {
		for _, index := range []int{math.MinInt, -5, -2, -1} {
			for _, term := range []int{-1, 0, 1, 3} {
				not(l, index, term, nil, 0).merges(t)
				not(l, index, term, []entry.Entry{{Index: index + 1, Term: 1}}, 0).merges(t)
				not(l, index, term, []entry.Entry{{Index: 1, Term: 3}}, 0).merges(t)
			}
		}
	}
}

// TestEN2Above: an index above the last one is told of that one.
func TestEN2Above(t *testing.T) {
	for _, x := range []struct {
		l    entry.Log
		last int
	}{
		{entry.Log{}, 0}, {entry.Log{Base: 5, Term: 3}, 5}, {logOf(0, 0, 1, 1, 2), 3}, {logOf(5, 3, 3, 4), 7},
		{long(9, 2, api.MaxList), 9 + api.MaxList}, {logOf(api.MaxIndex-2, 1, 1), api.MaxIndex - 1},
	} {
		for _, index := range []int{x.last + 1, x.last + 2, x.last + 100, api.MaxIndex - 1, api.MaxIndex} {
			if index <= x.last {
				continue
			}
			for _, term := range []int{1, 2, 4, api.MaxIndex} {
				not(x.l, index, term, nil, x.last).merges(t)
				if index < api.MaxIndex {
					not(x.l, index, term, row(index, term), x.last).merges(t)
				}
				if index < api.MaxIndex-1 {
					not(x.l, index, term, row(index, term, term), x.last).merges(t)
					not(x.l, index, term, row(index+1, term), 0).merges(t)
				}
			}
		}
	}
	not(entry.Log{}, 1, 1, nil, 0).merges(t)
	not(entry.Log{}, 1, 1, row(1, 1), 0).merges(t)
}

// TestEN2Other: where another term is there, the index ahead of the first one of that term is told, but at least Base.
func TestEN2Other(t *testing.T) {
	l := logOf(0, 0, 1, 1, 2, 2, 2, 5)
	behind := logOf(5, 3, 3, 3, 4, 4, 6)
	for _, x := range []struct {
		l              entry.Log
		index, at, has int
	}{
		{l, 1, 0, 1}, {l, 2, 0, 1}, {l, 3, 2, 2}, {l, 4, 2, 2}, {l, 5, 2, 2}, {l, 6, 5, 5},
		{behind, 6, 5, 3}, {behind, 7, 5, 3}, {behind, 8, 7, 4}, {behind, 9, 7, 4}, {behind, 10, 9, 6},
		{logOf(5, 3, 4, 4), 7, 5, 4}, {logOf(5, 3, 4, 4), 6, 5, 4}, {logOf(5, 3, 3, 3), 7, 5, 3},
		{long(9, 2, api.MaxList), 9 + api.MaxList, 9, 2}, {long(9, 2, api.MaxList), 10, 9, 2},
		{logOf(api.MaxIndex-3, 1, 1, 2, 2), api.MaxIndex, api.MaxIndex - 2, 2},
	} {
		for _, term := range []int{1, 2, 3, 4, 5, 6, 7, api.MaxIndex} {
			if term == x.has {
				continue
			}
			not(x.l, x.index, term, nil, x.at).merges(t)
			if x.index < api.MaxIndex {
				not(x.l, x.index, term, row(x.index, term), x.at).merges(t)
				not(x.l, x.index, term, []entry.Entry{{Index: x.index + 1, Term: term, Kind: 3}}, 0).merges(t)
			}
		}
		done(x.l, x.index, x.has, nil, x.l, x.index).merges(t)
	}
}

// TestEN2More: what is more goes behind the index, in place of what is of another term there.
func TestEN2More(t *testing.T) {
	three, none := logOf(0, 0, 1, 1, 2), entry.Log{Base: 5, Term: 3}
	for _, m := range []merge{
		// Behind the last one.
		done(entry.Log{}, 0, 0, row(0, 1, 1, 4), logOf(0, 0, 1, 1, 4), 3),
		done(three, 3, 2, row(3, 2, 7), logOf(0, 0, 1, 1, 2, 2, 7), 5),
		done(none, 5, 3, row(5, 3, 4), logOf(5, 3, 3, 4), 7),
		done(logOf(5, 3, 4), 6, 4, row(6, 4), logOf(5, 3, 4, 4), 7),
		done(logOf(api.MaxIndex-2, 3, 4), api.MaxIndex-1, 4, row(api.MaxIndex-1, api.MaxIndex), logOf(api.MaxIndex-2, 3, 4, api.MaxIndex), api.MaxIndex),
		// Nothing more.
		done(entry.Log{}, 0, 0, nil, entry.Log{}, 0),
		done(entry.Log{}, 0, 0, []entry.Entry{}, entry.Log{}, 0),
		done(three, 0, 0, nil, three, 0),
		done(three, 1, 1, nil, three, 1),
		done(three, 2, 1, nil, three, 2),
		done(three, 3, 2, nil, three, 3),
		done(none, 5, 3, nil, none, 5),
		done(none, 4, 3, nil, none, 5),
		done(none, 0, 0, nil, none, 5),
		done(logOf(5, 3, 4), 2, 1, nil, logOf(5, 3, 4), 5),
		// It is there already: what is behind stays.
		done(three, 0, 0, row(0, 1, 1, 2), three, 3),
		done(three, 0, 0, row(0, 1), three, 1),
		done(three, 1, 1, row(1, 1), three, 2),
		done(three, 1, 1, row(1, 1, 2), three, 3),
		done(logOf(5, 3, 3, 4), 5, 3, row(5, 3), logOf(5, 3, 3, 4), 6),
		// Some of it is.
		done(three, 1, 1, row(1, 1, 2, 2, 3), logOf(0, 0, 1, 1, 2, 2, 3), 5),
		done(logOf(5, 3, 3), 5, 3, row(5, 3, 4), logOf(5, 3, 3, 4), 7),
		// It differs: what is behind goes.
		done(three, 2, 1, row(2, 3), logOf(0, 0, 1, 1, 3), 3),
		done(three, 0, 0, row(0, 2), logOf(0, 0, 2), 1),
		done(three, 1, 1, row(1, 2), logOf(0, 0, 1, 2), 2),
		done(three, 0, 0, row(0, 1, 1, 1, 1), logOf(0, 0, 1, 1, 1, 1), 4),
		done(logOf(0, 0, 1, 1, 2, 2, 2, 5), 1, 1, row(1, 1, 2, 3, 4), logOf(0, 0, 1, 1, 2, 3, 4), 5),
		done(logOf(0, 0, 1, 1, 2, 2, 2, 5), 1, 1, row(1, 1, 2, 3), logOf(0, 0, 1, 1, 2, 3), 4),
		done(logOf(5, 3, 4, 4, 9), 6, 4, row(6, 7), logOf(5, 3, 4, 7), 7),
		done(logOf(5, 3, 4, 4, 9), 5, 3, row(5, 3), logOf(5, 3, 3), 6),
	} {
		m.merges(t)
	}
}

// TestEN2Base: those up to Base are passed over, of whatever term; what is behind it is not older than what was let go.
func TestEN2Base(t *testing.T) {
	l, none := logOf(5, 3, 3, 4), entry.Log{Base: 5, Term: 3}
	for _, m := range []merge{
		done(l, 0, 0, row(0, 1), l, 5),
		done(l, 3, 1, row(3, 1), l, 5),
		done(l, 3, 1, row(3, 1, 1), l, 5),
		done(l, 4, 9, row(4, 9), l, 5),
		done(l, 3, 1, row(3, 1, 3, 3), l, 6),
		done(l, 3, 1, row(3, 1, 1, 3), l, 6),
		done(l, 3, 1, row(3, 1, 3, 3, 4), l, 7),
		done(l, 3, 1, row(3, 1, 3, 3, 4, 5), logOf(5, 3, 3, 4, 5), 8),
		done(l, 3, 1, row(3, 1, 3, 3, 5), logOf(5, 3, 3, 5), 7),
		done(l, 3, 1, row(3, 1, 3, 4), logOf(5, 3, 4), 6),
		done(l, 0, 0, row(0, 1, 1, 1, 1, 1, 3, 4, 4), logOf(5, 3, 3, 4, 4), 8),
		done(none, 2, 1, row(2, 1, 2, 2, 3, 4), logOf(5, 3, 3, 4), 7),
		// At Base no term is asked for.
		done(l, 5, 3, row(5, 3), l, 6),
		done(l, 5, 1, row(5, 3), l, 6),
		done(l, 5, 0, row(5, 3), l, 6),
		done(l, 5, 9, row(5, 9), logOf(5, 3, 9), 6),
		done(l, 5, 9, nil, l, 5),
		done(none, 5, 1, row(5, 3), logOf(5, 3, 3), 6),
		done(none, 5, 9, nil, none, 5),
		// Terms would fall.
		not(l, 5, 1, row(5, 1), 0),
		not(l, 5, 2, row(5, 2, 7), 0),
		not(l, 3, 1, row(3, 1, 1, 2), 0),
		not(l, 3, 1, row(3, 1, 2, 2, 9), 0),
		not(l, 0, 0, row(0, 1, 1, 1, 1, 1, 1), 0),
		not(none, 5, 1, row(5, 2), 0),
		not(none, 4, 1, row(4, 1, 1), 0),
		not(none, 0, 0, row(0, 1, 1, 1, 1, 2, 2, 3), 0),
	} {
		m.merges(t)
	}
	last := entry.Log{Base: api.MaxIndex, Term: 4}
	done(last, api.MaxIndex, 4, nil, last, api.MaxIndex).merges(t)
	done(last, api.MaxIndex-2, 1, row(api.MaxIndex-2, 1, 1), last, api.MaxIndex).merges(t)
	not(last, api.MaxIndex, 4, []entry.Entry{{Index: api.MaxIndex + 1, Term: 4}}, 0).merges(t)
}

// spoilt are entries behind an index and a term that may not stand there.
func spoilt(index, term int) map[string][]entry.Entry {
	m := map[string][]entry.Entry{}
	for at := range 3 {
		one := func(what string, change func(e *entry.Entry)) {
			l := row(index, term, term, term+1)
			change(&l[at])
			m[fmt.Sprintf("%s at %d", what, at)] = l
		}
		for _, n := range []int{math.MinInt, -index - 1, -2, -1, 1, 2, api.MaxIndex, math.MaxInt - 99} {
			one(fmt.Sprintf("an index %d off", n), func(e *entry.Entry) { e.Index += n })
		}
		for _, n := range append(noCounts(), term-1) {
			one(fmt.Sprintf("the term %d", n), func(e *entry.Entry) { e.Term = n })
		}
		for _, n := range noKinds() {
			one(fmt.Sprintf("the kind %d", n), func(e *entry.Entry) { e.Kind = n })
		}
		for _, n := range []int{mostData + 1, 2*mostData + 3} {
			one(fmt.Sprintf("%d bytes", n), func(e *entry.Entry) { e.Data = data(n) })
		}
	}
	m["terms that fall"] = row(index, term+1, term)
	m["terms that fall at last"] = row(index, term, term+2, term+1)
	m["the same twice"] = append(row(index, term), row(index, term)...)
	m["backwards"] = []entry.Entry{of(index+2, term), of(index+1, term)}
	return m
}

// TestEN2Spoilt: what may not stand behind the index and the term is refused, wherever it would go: passed over, there already, or nowhere.
func TestEN2Spoilt(t *testing.T) {
	l := logOf(5, 3, 3, 3, 4, 4)
	for _, x := range [][2]int{{0, 2}, {1, 2}, {3, 2}, {4, 3}, {5, 3}, {6, 3}, {7, 3}, {7, 2}, {8, 4}, {9, 4}, {10, 4}, {30, 4}} {
		for name, more := range spoilt(x[0], x[1]) {
			m := not(l, x[0], x[1], more, 0)
			got, last, ok := entry.Merge(m.l, m.index, m.term, m.more)
			if last != 0 || ok {
				t.Errorf("Merge behind %d of %d with %s: %d, %v", x[0], x[1], name, last, ok)
			}
			isLog(t, "Merge with "+name, got, l)
		}
	}
	not(entry.Log{}, 0, 0, row(0, 0), 0).merges(t)
	not(entry.Log{}, 0, -1, row(0, 0), 0).merges(t)
	not(entry.Log{}, 0, -1, row(0, -1), 0).merges(t)
	not(entry.Log{}, 0, 0, row(1, 1), 0).merges(t)
	not(entry.Log{}, 0, 5, row(0, 4), 0).merges(t)
	not(logOf(api.MaxIndex-2, 3, 3), api.MaxIndex-1, 3, row(api.MaxIndex-1, 3, 3), 0).merges(t)
	not(logOf(0, 0, 1), 1, 1, []entry.Entry{{Index: 2, Term: 1, Data: data(mostData + 1)}}, 0).merges(t)
	much := []entry.Entry{{Index: 2, Term: 1, Kind: entry.Member, Data: data(mostData)}}
	done(logOf(0, 0, 1), 1, 1, much, entry.Log{L: append(row(0, 1), much...)}, 2).merges(t)
}

// TestEN2Edge: what the words say of an index and a term behind which nothing can stand, with nothing more: these are looked at as others are.
func TestEN2Edge(t *testing.T) {
	l := logOf(0, 0, 1, 1, 2)
	for _, term := range []int{math.MinInt, -1, 0, api.MaxIndex + 1, math.MaxInt} {
		not(l, 3, term, nil, 2).merges(t)
		not(l, 2, term, nil, 0).merges(t)
		not(l, 4, term, nil, 3).merges(t)
		done(l, 0, term, nil, l, 0).merges(t)
	}
	for _, index := range []int{api.MaxIndex + 1, math.MaxInt} {
		not(l, index, 2, nil, 3).merges(t)
		not(l, index, 2, []entry.Entry{{Index: index + 1, Term: 2}}, 0).merges(t)
	}
	done(l, 0, 1, row(0, 1, 1), l, 2).merges(t)
	done(l, 3, 2, long(3, 2, api.MaxList+9).L, entry.Log{L: slices.Concat(l.L, long(3, 2, api.MaxList-3).L)}, api.MaxList).merges(t)
}

// TestEN2Full: what is more than a log may have is left out.
func TestEN2Full(t *testing.T) {
	most := api.MaxList
	for _, base := range []int{0, 9} {
		term := min(base, 2)
		at := max(term, 1)
		for _, n := range []int{most - 3, most - 2, most - 1, most} {
			l, end := long(base, term, n), base+n
			for more := range 6 {
				fits := min(more, most-n)
				done(l, end, at, long(end, at, more).L, long(base, term, n+fits), end+fits).merges(t)
				// Some of it is there already.
				done(l, end-2, at, long(end-2, at, more+2).L, long(base, term, n+fits), end+fits).merges(t)
				// The last two go.
				want := long(base, term, n-2)
				later := long(end-2, at+1, more+2).L
				want.L = append(want.L, later[:2+fits]...)
				done(l, end-2, at, later, want, end+fits).merges(t)
			}
			done(l, end-1, at, nil, l, end-1).merges(t)
		}
	}
	full := long(9, 2, most)
	done(full, 9, 2, full.L, full, 9+most).merges(t)
	done(full, 9, 2, full.L[:5], full, 14).merges(t)
	done(full, 7, 1, slices.Concat(row(7, 1, 1), full.L), full, 9+most).merges(t)
	done(entry.Log{}, 0, 0, long(0, 0, most).L, long(0, 0, most), most).merges(t)
	done(entry.Log{Base: 5, Term: 2}, 3, 1, slices.Concat(row(3, 1, 1), long(5, 2, most-2).L), long(5, 2, most-2), 3+most).merges(t)
}

// TestEN2OtherData: of one term what is there stays, whatever stands in more.
func TestEN2OtherData(t *testing.T) {
	l := logOf(0, 0, 1, 1, 2)
	more := []entry.Entry{{Index: 2, Term: 1, Kind: entry.Empty, Data: []byte("else")}, {Index: 3, Term: 2, Data: []byte("else")}, {Index: 4, Term: 2, Data: []byte("new")}}
	want := logOf(0, 0, 1, 1, 2)
	want.L = append(want.L, more[2])
	done(l, 1, 1, more, want, 4).merges(t)
	done(l, 1, 1, more[:2], l, 3).merges(t)
}

package entry_test

import (
	"errors"
	"fmt"
	"math"
	"slices"
	"strings"
	"testing"

	"tollbar/api"
	"tollbar/entry"
)

// mostData is how many bytes an entry's data may have.
const mostData = 4096

// errno is an error's number; -1, if it has none.
func errno(err error) api.Errno {
	var n api.Errno
	if err != nil && !errors.As(err, &n) {
		return -1
	}
	return n
}

// of is an entry, whose kind and data hang on its index and term alone.
func of(index, term int) entry.Entry {
	return entry.Entry{Index: index, Term: term, Kind: (index + term) % 3, Data: fmt.Appendf(nil, "%d.%d", index, term)}
}

// row are entries behind an index, of these terms.
func row(index int, terms ...int) []entry.Entry {
	var l []entry.Entry
	for i, term := range terms {
		l = append(l, of(index+1+i, term))
	}
	return l
}

// logOf is a log of entries of these terms.
func logOf(base, term int, terms ...int) entry.Log {
	return entry.Log{Base: base, Term: term, L: row(base, terms...)}
}

// long is a log of so many entries of one term.
func long(base, term, n int) entry.Log {
	l := entry.Log{Base: base, Term: term}
	for i := range n {
		l.L = append(l.L, entry.Entry{Index: base + 1 + i, Term: max(term, 1), Kind: entry.Order})
	}
	return l
}

// copied are entries with data of their own.
func copied(l []entry.Entry) []entry.Entry {
	var own []entry.Entry
	for _, e := range l {
		e.Data = slices.Clone(e.Data)
		own = append(own, e)
	}
	return own
}

// changed is a log with one of its entries changed.
func changed(l entry.Log, at int, change func(e *entry.Entry)) entry.Log {
	l.L = copied(l.L)
	change(&l.L[at])
	return l
}

// told is an entry as a text.
func told(e entry.Entry) string {
	return fmt.Sprintf("%d.%d.%d=%q", e.Index, e.Term, e.Kind, e.Data)
}

// listed are entries as a text.
func listed(l []entry.Entry) string {
	var s strings.Builder
	for _, e := range l {
		s.WriteString(" " + told(e))
	}
	return s.String()
}

// shown is a log as a text, with all that is in it.
func shown(l entry.Log) string { return fmt.Sprintf("%d/%d:%s", l.Base, l.Term, listed(l.L)) }

// short is a text of which the middle is left out where it is long.
func short(s string) string {
	if len(s) < 400 {
		return s
	}
	return s[:200] + " .. " + s[len(s)-200:]
}

// isLog looks at a log.
func isLog(t *testing.T, what string, got, want entry.Log) {
	t.Helper()
	if g, w := shown(got), shown(want); g != w {
		t.Errorf("%s: %s, not %s", what, short(g), short(w))
	}
}

// data are so many bytes.
func data(n int) []byte { return []byte(strings.Repeat("d", n)) }

// noCounts are numbers that are neither an index nor a term.
func noCounts() []int {
	return []int{math.MinInt, -api.MaxIndex, -1, 0, api.MaxIndex + 1, api.MaxIndex + 2, 1<<41 + 1, math.MaxInt}
}

// noKinds are numbers that are no kinds: about the bounds, and those that a smaller number would have for one.
func noKinds() []int {
	l := []int{math.MinInt, -3, -2, -1, 3, 4, 5, math.MaxInt}
	for kind := range 3 {
		l = append(l, kind+1<<8, kind+1<<16, kind+1<<32, kind-1<<8, kind-1<<32)
	}
	return l
}

// logs are some that may be.
func logs() map[string]entry.Log {
	m := map[string]entry.Log{
		"new":                 {},
		"new, not nil":        {L: []entry.Entry{}},
		"let go":              {Base: 1, Term: 1},
		"let go all":          {Base: api.MaxIndex, Term: api.MaxIndex},
		"let go all, early":   {Base: api.MaxIndex, Term: 1},
		"let go, of a late":   {Base: 1, Term: api.MaxIndex},
		"one":                 logOf(0, 0, 1),
		"three":               logOf(0, 0, 1, 1, 2),
		"of one term":         logOf(0, 0, 7, 7, 7),
		"of terms far apart":  logOf(0, 0, 1, 1<<20, 1<<39, api.MaxIndex),
		"behind":              logOf(5, 3, 3, 3, 4),
		"behind, later":       logOf(5, 3, 4, 9),
		"of the last term":    logOf(5, api.MaxIndex, api.MaxIndex, api.MaxIndex),
		"up to the end":       logOf(api.MaxIndex-2, 3, 3, 4),
		"up to both ends":     logOf(api.MaxIndex-1, api.MaxIndex, api.MaxIndex),
		"one less than full":  long(0, 0, api.MaxList-1),
		"full":                long(0, 0, api.MaxList),
		"full behind":         long(9, 2, api.MaxList),
		"full, up to the end": long(api.MaxIndex-api.MaxList, 2, api.MaxList),
		"with much data":      changed(logOf(0, 0, 1, 1, 2), 1, func(e *entry.Entry) { e.Data = data(mostData) }),
		"with empty data":     changed(logOf(0, 0, 1, 1, 2), 1, func(e *entry.Entry) { e.Data = []byte{} }),
		"with no data":        changed(logOf(0, 0, 1, 1, 2), 1, func(e *entry.Entry) { e.Data = nil }),
	}
	for kind := range 3 {
		m[fmt.Sprintf("of the kind %d", kind)] = changed(logOf(3, 1, 1), 0, func(e *entry.Entry) { e.Kind = kind })
	}
	return m
}

// noBases are logs that may not be for their Base or their Term.
func noBases() map[string]entry.Log {
	m := map[string]entry.Log{
		"Base 0 alone": {Term: 1}, "Term 0 alone": {Base: 1}, "Base 0 alone, more": logOf(0, 1, 1), "Term 0 alone, more": logOf(1, 0, 1),
		"Base 0 alone, the last term": {Term: api.MaxIndex}, "Term 0 alone, the last index": {Base: api.MaxIndex},
	}
	for _, n := range noCounts() {
		if n == 0 {
			continue
		}
		m[fmt.Sprintf("Base %d", n)] = entry.Log{Base: n, Term: 1}
		m[fmt.Sprintf("Term %d", n)] = entry.Log{Base: 1, Term: n}
		m[fmt.Sprintf("Base %d, Term 0", n)] = entry.Log{Base: n}
		m[fmt.Sprintf("Term %d, Base 0", n)] = entry.Log{Term: n}
		m[fmt.Sprintf("both %d", n)] = entry.Log{Base: n, Term: n}
		m[fmt.Sprintf("Base %d, more", n)] = entry.Log{Base: n, Term: 1, L: []entry.Entry{{Index: n + 1, Term: 1}}}
		m[fmt.Sprintf("Term %d, more", n)] = entry.Log{Base: 1, Term: n, L: []entry.Entry{{Index: 2, Term: max(n, 1)}}}
	}
	return m
}

// noLogs are logs that may not be.
func noLogs() map[string]entry.Log {
	m := noBases()
	m["too many"] = long(0, 0, api.MaxList+1)
	m["too many behind"] = long(9, 2, api.MaxList+1)
	m["over the end"] = entry.Log{Base: api.MaxIndex, Term: 1, L: []entry.Entry{{Index: api.MaxIndex + 1, Term: 1}}}
	m["over the end by one"] = long(api.MaxIndex-2, 1, 3)
	for at := range 3 {
		one := func(what string, change func(e *entry.Entry)) {
			m[fmt.Sprintf("%s at %d", what, at)] = changed(logOf(0, 0, 2, 2, 3), at, change)
			m[fmt.Sprintf("%s at %d behind", what, at)] = changed(logOf(5, 2, 2, 2, 3), at, change)
		}
		for _, n := range []int{math.MinInt, -7, -2, -1, 1, 2, 5, api.MaxIndex, math.MaxInt - 9} {
			one(fmt.Sprintf("an index %d off", n), func(e *entry.Entry) { e.Index += n })
		}
		for _, n := range append(noCounts(), 1) {
			if n != 1 || at > 0 {
				one(fmt.Sprintf("the term %d", n), func(e *entry.Entry) { e.Term = n })
			}
		}
		for _, n := range noKinds() {
			one(fmt.Sprintf("the kind %d", n), func(e *entry.Entry) { e.Kind = n })
		}
		for _, n := range []int{mostData + 1, 2*mostData + 3} {
			one(fmt.Sprintf("%d bytes", n), func(e *entry.Entry) { e.Data = data(n) })
		}
	}
	m["a term below Term"] = logOf(5, 3, 2)
	m["a term below Term, and more"] = logOf(5, 3, 2, 3, 4)
	m["a term that falls"] = logOf(0, 0, 2, 1)
	m["a term that falls at last"] = logOf(5, 1, 2, 3, 4, 3)
	m["the same twice"] = entry.Log{L: []entry.Entry{of(1, 1), of(1, 1), of(2, 1)}}
	m["backwards"] = entry.Log{L: []entry.Entry{of(2, 1), of(1, 1)}}
	return m
}

// TestExample: the document's own.
func TestExample(t *testing.T) {
	var l entry.Log
	for _, term := range []int{1, 1, 2} {
		l = adds(t, l, term, entry.Order, "")
	}
	merged, index, ok := entry.Merge(l, 2, 1, []entry.Entry{{Index: 3, Term: 3}})
	want := entry.Log{L: []entry.Entry{{Index: 1, Term: 1, Kind: entry.Order}, {Index: 2, Term: 1, Kind: entry.Order}, {Index: 3, Term: 3}}}
	if index != 3 || !ok {
		t.Errorf("Merge: %d, %v", index, ok)
	}
	isLog(t, "Merge", merged, want)
}

// TestEN1Kinds: the numbers of the kinds.
func TestEN1Kinds(t *testing.T) {
	if entry.Empty != 0 || entry.Order != 1 || entry.Member != 2 {
		t.Errorf("%d, %d, %d", entry.Empty, entry.Order, entry.Member)
	}
}

// TestEN1Check: which logs may be.
func TestEN1Check(t *testing.T) {
	for name, l := range logs() {
		if err := entry.Check(l); err != nil {
			t.Errorf("Check, %s: %v", name, err)
		}
	}
	for name, l := range noLogs() {
		if err := entry.Check(l); err != api.ErrArg {
			t.Errorf("Check, %s: %v", name, err)
		}
	}
}

// TestEN1CheckFull: as many entries as may be, each of as many bytes as may be.
func TestEN1CheckFull(t *testing.T) {
	l, much := long(7, 3, api.MaxList), data(mostData)
	for i := range l.L {
		l.L[i].Data = much
	}
	if err := entry.Check(l); err != nil {
		t.Errorf("Check: %v", err)
	}
	l.L[api.MaxList-1].Data = data(mostData + 1)
	if err := entry.Check(l); err != api.ErrArg {
		t.Errorf("Check with a byte more: %v", err)
	}
}

// indexes are some about a log's bounds, and far from them.
func indexes(l entry.Log) []int {
	last := l.Base + len(l.L)
	return []int{math.MinInt, -1, 0, 1, l.Base - 1, l.Base, l.Base + 1, l.Base + 2, last - 1, last, last + 1, last + 2, api.MaxIndex, math.MaxInt}
}

// TestEN1NoLog: what each call answers of a log that may not be, whatever else is wrong.
func TestEN1NoLog(t *testing.T) {
	for name, l := range noLogs() {
		if index, term := entry.Last(l); index != 0 || term != 0 {
			t.Errorf("Last, %s: %d, %d", name, index, term)
		}
		for _, index := range indexes(l) {
			noLog(t, fmt.Sprintf("%s, at %d", name, index), l, index)
		}
		for _, term := range []int{-1, 0, 1, 2, 3, l.Term, api.MaxIndex, api.MaxIndex + 1} {
			for _, kind := range []int{entry.Empty, entry.Member, 3} {
				for _, n := range []int{0, mostData + 1} {
					if got, err := entry.Add(l, term, kind, data(n)); err != api.ErrArg || shown(got) != "0/0:" {
						t.Errorf("Add to %s: %s, %v", name, shown(got), err)
					}
				}
			}
		}
	}
}

// noLog looks at the calls that take an index, of a log that may not be.
func noLog(t *testing.T, name string, l entry.Log, index int) {
	t.Helper()
	if term, err := entry.Term(l, index); err != api.ErrArg || term != 0 {
		t.Errorf("Term, %s: %d, %v", name, term, err)
	}
	if e, err := entry.At(l, index); err != api.ErrArg || told(e) != told(entry.Entry{}) {
		t.Errorf("At, %s: %s, %v", name, told(e), err)
	}
	if got, err := entry.Compact(l, index); err != api.ErrArg || shown(got) != "0/0:" {
		t.Errorf("Compact, %s: %s, %v", name, shown(got), err)
	}
	for _, term := range []int{0, 1, 2, l.Term, api.MaxIndex, math.MaxInt} {
		if entry.Newer(l, index, term) {
			t.Errorf("Newer, %s: true", name)
		}
		for _, more := range [][]entry.Entry{nil, {{Index: index + 1, Term: term}}, {{Index: index + 2, Term: term}}} {
			if got, n, ok := entry.Merge(l, index, term, more); ok || n != 0 || shown(got) != "0/0:" {
				t.Errorf("Merge, %s: %s, %d, %v", name, shown(got), n, ok)
			}
		}
	}
	for _, most := range []int{-1, 0, 1, 3, math.MaxInt} {
		if got := entry.From(l, index, most); len(got) != 0 {
			t.Errorf("From, %s: %s", name, short(listed(got)))
		}
	}
}

// TestEN1Last: the last entry's index and term, or what was let go.
func TestEN1Last(t *testing.T) {
	lasts := []struct {
		l           entry.Log
		index, term int
	}{
		{entry.Log{}, 0, 0},
		{entry.Log{L: []entry.Entry{}}, 0, 0},
		{entry.Log{Base: 5, Term: 3}, 5, 3},
		{entry.Log{Base: api.MaxIndex, Term: api.MaxIndex}, api.MaxIndex, api.MaxIndex},
		{logOf(0, 0, 1), 1, 1},
		{logOf(0, 0, 1, 1, 2), 3, 2},
		{logOf(5, 3, 3), 6, 3},
		{logOf(5, 3, 4, 4, 9), 8, 9},
		{logOf(api.MaxIndex-1, 1, api.MaxIndex), api.MaxIndex, api.MaxIndex},
		{long(9, 2, api.MaxList), 9 + api.MaxList, 2},
	}
	for _, x := range lasts {
		if index, term := entry.Last(x.l); index != x.index || term != x.term {
			t.Errorf("Last of %s: %d, %d, not %d, %d", short(shown(x.l)), index, term, x.index, x.term)
		}
	}
}

// asked is what an index has: a term, or an error, and what At tells of it.
type asked struct {
	index, term int
	err, at     api.Errno
}

// TestEN1TermAt: the term and the entry of each index, and which error is told where there is none.
func TestEN1TermAt(t *testing.T) {
	for _, x := range []struct {
		l    entry.Log
		asks []asked
	}{
		{entry.Log{}, []asked{
			{math.MinInt, 0, api.ErrNone, api.ErrNone}, {-1, 0, api.ErrNone, api.ErrNone}, {0, 0, 0, api.ErrNone},
			{1, 0, api.ErrNone, api.ErrNone}, {math.MaxInt, 0, api.ErrNone, api.ErrNone},
		}},
		{logOf(0, 0, 1, 1, 2), []asked{
			{math.MinInt, 0, api.ErrNone, api.ErrNone}, {-1, 0, api.ErrNone, api.ErrNone}, {0, 0, 0, api.ErrNone},
			{1, 1, 0, 0}, {2, 1, 0, 0}, {3, 2, 0, 0}, {4, 0, api.ErrNone, api.ErrNone}, {math.MaxInt, 0, api.ErrNone, api.ErrNone},
		}},
		{entry.Log{Base: 1, Term: 9}, []asked{
			{-1, 0, api.ErrNone, api.ErrNone}, {0, 0, api.ErrOld, api.ErrNone}, {1, 9, 0, api.ErrOld}, {2, 0, api.ErrNone, api.ErrNone},
		}},
		{logOf(5, 3, 3, 4, 9), []asked{
			{math.MinInt, 0, api.ErrNone, api.ErrNone}, {-1, 0, api.ErrNone, api.ErrNone}, {0, 0, api.ErrOld, api.ErrNone},
			{1, 0, api.ErrOld, api.ErrOld}, {4, 0, api.ErrOld, api.ErrOld}, {5, 3, 0, api.ErrOld},
			{6, 3, 0, 0}, {7, 4, 0, 0}, {8, 9, 0, 0}, {9, 0, api.ErrNone, api.ErrNone}, {math.MaxInt, 0, api.ErrNone, api.ErrNone},
		}},
		{logOf(api.MaxIndex-1, 3, api.MaxIndex), []asked{
			{0, 0, api.ErrOld, api.ErrNone}, {api.MaxIndex - 2, 0, api.ErrOld, api.ErrOld}, {api.MaxIndex - 1, 3, 0, api.ErrOld},
			{api.MaxIndex, api.MaxIndex, 0, 0}, {api.MaxIndex + 1, 0, api.ErrNone, api.ErrNone}, {math.MaxInt, 0, api.ErrNone, api.ErrNone},
		}},
	} {
		for _, a := range x.asks {
			if term, err := entry.Term(x.l, a.index); term != a.term || errno(err) != a.err {
				t.Errorf("Term of %s, %d: %d, %v, not %d, %v", shown(x.l), a.index, term, err, a.term, a.err)
			}
			var want entry.Entry
			if a.at == 0 {
				want = of(a.index, a.term)
			}
			if e, err := entry.At(x.l, a.index); told(e) != told(want) || errno(err) != a.at {
				t.Errorf("At of %s, %d: %s, %v, not %s, %v", shown(x.l), a.index, told(e), err, told(want), a.at)
			}
		}
	}
}

// TestEN1Full: each entry of a log that is full.
func TestEN1Full(t *testing.T) {
	l := long(9, 2, api.MaxList)
	for i, e := range l.L {
		if term, err := entry.Term(l, e.Index); term != 2 || err != nil {
			t.Fatalf("Term of %d: %d, %v", e.Index, term, err)
		}
		if i%97 == 0 {
			if got, err := entry.At(l, e.Index); told(got) != told(e) || err != nil {
				t.Fatalf("At of %d: %s, %v", e.Index, told(got), err)
			}
		}
	}
}

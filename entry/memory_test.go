package entry_test

import (
	"testing"

	"tollbar/api"
	"tollbar/entry"
)

// roomy is a log with spare room behind its entries and behind their data.
func roomy(l entry.Log) entry.Log {
	own := make([]entry.Entry, 0, len(l.L)+9)
	for _, e := range l.L {
		e.Data = append(make([]byte, 0, len(e.Data)+9), e.Data...)
		own = append(own, e)
	}
	l.L = own
	return l
}

// spoilBytes writes over all of some bytes, their spare room too.
func spoilBytes(b []byte) {
	b = b[:cap(b)]
	for i := range b {
		b[i] = '!'
	}
}

// spoil writes over all of some entries, their data and their spare room too.
func spoil(l []entry.Entry) {
	l = l[:cap(l)]
	for i := range l {
		spoilBytes(l[i].Data)
		l[i] = entry.Entry{Index: -7, Term: -7, Kind: -7, Data: []byte("!")}
	}
}

// answer is what a call answered: all lists of entries in it.
type answer struct {
	text  string
	lists [][]entry.Entry
}

// ofLog is an answer that is a log.
func ofLog(l entry.Log) answer { return answer{shown(l), [][]entry.Entry{l.L}} }

// now is what an answer's lists tell by now.
func (a answer) now() string {
	s := ""
	for _, l := range a.lists {
		s += listed(l)
	}
	return s
}

// calls are those that answer entries, of a log and of what is to be merged to it.
func calls() map[string]func(l entry.Log, more []entry.Entry) answer {
	merge := func(index, term int) func(l entry.Log, more []entry.Entry) answer {
		return func(l entry.Log, more []entry.Entry) answer {
			got, _, _ := entry.Merge(l, index, term, more)
			return ofLog(got)
		}
	}
	alone := func(index, term int, terms ...int) func(l entry.Log, more []entry.Entry) answer {
		return func(l entry.Log, _ []entry.Entry) answer { return merge(index, term)(l, row(index, terms...)) }
	}
	return map[string]func(l entry.Log, more []entry.Entry) answer{
		"Add": func(l entry.Log, more []entry.Entry) answer {
			got, _ := entry.Add(l, 9, entry.Order, more[0].Data)
			return ofLog(got)
		},
		"Merge":                merge(7, 3),
		"Merge that differs":   merge(7, 5),
		"Merge above":          alone(30, 3),
		"Merge of another":     alone(7, 9),
		"Merge that falls":     alone(5, 1, 1),
		"Merge below":          merge(-1, 3),
		"Merge at Base":        merge(5, 3),
		"Merge of what is not": merge(8, 4),
		"At": func(l entry.Log, more []entry.Entry) answer {
			e, _ := entry.At(l, 7)
			return answer{told(e), [][]entry.Entry{{e}}}
		},
		"From": func(l entry.Log, more []entry.Entry) answer {
			got := entry.From(l, 7, 2)
			return answer{listed(got), [][]entry.Entry{got}}
		},
		"From all": func(l entry.Log, more []entry.Entry) answer {
			got := entry.From(l, 6, api.MaxList)
			return answer{listed(got), [][]entry.Entry{got}}
		},
		"Compact": func(l entry.Log, more []entry.Entry) answer {
			got, _ := entry.Compact(l, 6)
			return ofLog(got)
		},
		"Compact at Base": func(l entry.Log, more []entry.Entry) answer {
			got, _ := entry.Compact(l, 5)
			return ofLog(got)
		},
	}
}

// mores are what is to be merged: that fits behind 7 of 3 and goes on, that is there already, that differs, and that reaches over Base.
func mores() map[string][]entry.Entry {
	return map[string][]entry.Entry{
		"more":           row(7, 3, 4, 4, 9),
		"there":          row(7, 3, 4),
		"other":          row(7, 5, 6),
		"behind Base":    row(5, 3, 3, 4, 4),
		"may not be":     row(7, 9, 1),
		"there at first": row(5, 3),
	}
}

// TestRule3Log: no answer shares anything with the log or with what is merged to it, nor with another answer; none of these is changed.
func TestRule3Log(t *testing.T) {
	for name, call := range calls() {
		for which, rest := range mores() {
			l, more := roomy(logOf(5, 3, 3, 3, 3, 4)), roomy(entry.Log{L: rest}).L
			first, second := call(l, more), call(l, more)
			if first.text != second.text || first.now() != second.now() {
				t.Errorf("%s with %s: %s, then %s", name, which, first.text, second.text)
			}
			isLog(t, name+" with "+which+": the log behind it", l, logOf(5, 3, 3, 3, 3, 4))
			if got := listed(more); got != listed(rest) {
				t.Errorf("%s with %s: more is %s, not %s", name, which, got, listed(rest))
			}
			want := first.now()
			for _, list := range second.lists {
				spoil(list)
			}
			if got := first.now(); got != want {
				t.Errorf("%s with %s, behind a change of another answer: %s, not %s", name, which, got, want)
			}
			isLog(t, name+" with "+which+": the log behind a change of an answer", l, logOf(5, 3, 3, 3, 3, 4))
			if got := listed(more); got != listed(rest) {
				t.Errorf("%s with %s, behind a change of an answer: more is %s, not %s", name, which, got, listed(rest))
			}
			spoil(l.L)
			spoil(more)
			if got := first.now(); got != want {
				t.Errorf("%s with %s, behind a change of the arguments: %s, not %s", name, which, got, want)
			}
		}
	}
}

// TestRule3Spare: nothing is laid in the spare room behind the log and behind its data.
func TestRule3Spare(t *testing.T) {
	for name, call := range calls() {
		for which, rest := range mores() {
			l, more := roomy(logOf(5, 3, 3, 3, 3, 4)), roomy(entry.Log{L: rest}).L
			call(l, more)
			for _, list := range [][]entry.Entry{l.L, more} {
				for _, e := range list[len(list):cap(list)] {
					if told(e) != told(entry.Entry{}) {
						t.Errorf("%s with %s lays %s behind a list", name, which, told(e))
					}
				}
				for _, e := range list {
					for _, b := range e.Data[len(e.Data):cap(e.Data)] {
						if b != 0 {
							t.Errorf("%s with %s lays %q behind data", name, which, b)
						}
					}
				}
			}
		}
	}
}

// TestRule3Apart: no two entries of an answer share their data's room, nor do two parts of it.
func TestRule3Apart(t *testing.T) {
	for name, call := range calls() {
		for which, rest := range mores() {
			a := call(roomy(logOf(5, 3, 3, 3, 3, 4)), roomy(entry.Log{L: rest}).L)
			for _, list := range a.lists {
				for i := range list {
					want := listed(list[:i]) + listed(list[i+1:])
					spoilBytes(list[i].Data)
					if got := listed(list[:i]) + listed(list[i+1:]); got != want {
						t.Errorf("%s with %s, behind a change of one entry's data: %s, not %s", name, which, got, want)
					}
				}
			}
		}
	}
}

// TestRule3SameRoom: an entry that stands twice in what is handed in, or data that several share, are so no more in what is answered.
func TestRule3SameRoom(t *testing.T) {
	b := []byte("shared")
	l := entry.Log{L: []entry.Entry{{Index: 1, Term: 1, Data: b}, {Index: 2, Term: 1, Data: b}}}
	more := []entry.Entry{{Index: 3, Term: 1, Data: b}, {Index: 4, Term: 1, Data: b}}
	got, _, ok := entry.Merge(l, 2, 1, more)
	if !ok {
		t.Fatal("Merge")
	}
	for i := range got.L {
		spoilBytes(got.L[i].Data)
		for j := range got.L[i+1:] {
			if s := string(got.L[i+1+j].Data); s != "shared" {
				t.Errorf("%d, behind a change of %d: %q", i+1+j, i, s)
			}
		}
	}
	if string(b) != "shared" {
		t.Errorf("What was handed in: %q", b)
	}
}

// TestRule3Reads: what is asked of a log changes nothing.
func TestRule3Reads(t *testing.T) {
	l := roomy(logOf(5, 3, 3, 4))
	for index := range 12 {
		entry.Check(l)
		entry.Last(l)
		entry.Term(l, index)
		entry.At(l, index)
		entry.From(l, index, index)
		entry.Compact(l, index)
		entry.Newer(l, index, index)
		entry.Add(l, index, index, data(index*1000))
	}
	isLog(t, "The log", l, logOf(5, 3, 3, 4))
}

// TestRule3Bytes: an entry and its bytes share nothing, either way, with spare room behind them.
func TestRule3Bytes(t *testing.T) {
	e := entry.Entry{Index: 7, Term: 3, Kind: 1, Data: append(make([]byte, 0, 64), "data"...)}
	first, second := entry.Encode(e), entry.Encode(e)
	want := string(first)
	spoilBytes(first)
	spoilBytes(e.Data)
	if got := string(second); got != want {
		t.Errorf("Encode, behind a change of another answer and of the data: %q, not %q", got, want)
	}
	for _, s := range []string{want, want[:len(want)-1], want + "n", "", "n0;" + want[3:]} {
		b := append(make([]byte, 0, len(s)+64), s...)
		got, err := entry.Decode(b)
		again, _ := entry.Decode(b)
		if string(b) != s || (err == nil) != (s == want) {
			t.Errorf("Decode of %q: %v, %q", s, err, b)
		}
		text := told(got)
		spoilBytes(b)
		spoilBytes(again.Data)
		if told(got) != text {
			t.Errorf("Behind a change of the bytes: %s, not %s", told(got), text)
		}
	}
}

package msg_test

import (
	"fmt"
	"math"
	"slices"
	"testing"

	"tollbar/api"
	"tollbar/entry"
	"tollbar/msg"
)

// noEntries are entries that may not be.
func noEntries() map[string]entry.Entry {
	m := map[string]entry.Entry{
		"zero":              {},
		"no index, no term": {Kind: entry.Order, Data: []byte("x")},
		"too much data":     {Index: 7, Term: 2, Kind: 1, Data: data(mostData + 1)},
		"data of 4,200":     {Index: 7, Term: 2, Kind: 1, Data: data(mostEntry)},
		"far too much data": {Index: 7, Term: 2, Kind: 1, Data: data(3 * mostData)},
	}
	for _, n := range []int{math.MinInt, -api.MaxIndex, -1, 0, api.MaxIndex + 1, api.MaxIndex + 2, 2*api.MaxIndex + 1, math.MaxInt} {
		m[fmt.Sprintf("the index %d", n)] = entry.Entry{Index: n, Term: 2, Kind: 1, Data: []byte("x")}
		m[fmt.Sprintf("the term %d", n)] = entry.Entry{Index: 7, Term: n, Kind: 1, Data: []byte("x")}
	}
	for _, n := range []int{math.MinInt, -256, -3, -2, -1, 3, 4, 10, 256, 257, 1 << 32, 1<<32 + 1, math.MaxInt} {
		m[fmt.Sprintf("the kind %d", n)] = entry.Entry{Index: 7, Term: 2, Kind: n, Data: []byte("x")}
	}
	return m
}

// edgeEntries are entries about the edges that may be.
func edgeEntries() map[string]entry.Entry {
	m := map[string]entry.Entry{
		"the least":    {Index: 1, Term: 1},
		"the greatest": {Index: api.MaxIndex, Term: api.MaxIndex, Kind: entry.Member, Data: data(mostData)},
		"no data":      {Index: 7, Term: 2, Kind: 1, Data: nil},
		"empty data":   {Index: 7, Term: 2, Kind: 1, Data: []byte{}},
		"much data":    {Index: 7, Term: 2, Kind: 1, Data: data(mostData - 1)},
		"most data":    {Index: 7, Term: 2, Kind: 1, Data: data(mostData)},
		"like an end":  {Index: 7, Term: 2, Kind: 1, Data: []byte("b0:")},
		"a last index": {Index: api.MaxIndex, Term: 1},
		"a last term":  {Index: 1, Term: api.MaxIndex},
	}
	for kind := range 3 {
		m[fmt.Sprintf("the kind %d", kind)] = entry.Entry{Index: 7, Term: 2, Kind: kind, Data: []byte("x")}
	}
	return m
}

// TestMS1EntryMay: entries about the edges at the first place, in the midst, and at the last one.
func TestMS1EntryMay(t *testing.T) {
	for name, e := range edgeEntries() {
		mayBe(t, "one alone, "+name, changed(func(m *msg.Msg) { m.Entries = []entry.Entry{e} }))
		for _, n := range []int{3, mostEntries} {
			for _, at := range []int{0, 1, n / 2, n - 2, n - 1} {
				m := changed(func(m *msg.Msg) { m.Entries = row(6, n) })
				m.Entries[at] = e
				mayBe(t, fmt.Sprintf("%s at %d of %d", name, at, n), m)
			}
		}
	}
}

// TestMS1EntryMayNot: entries that may not be at the first place, in the midst, and at the last one.
func TestMS1EntryMayNot(t *testing.T) {
	for name, e := range noEntries() {
		mayNotBe(t, "one alone, "+name, changed(func(m *msg.Msg) { m.Entries = []entry.Entry{e} }))
		for _, n := range []int{3, mostEntries} {
			for _, at := range []int{0, 1, n / 2, n - 2, n - 1} {
				m := changed(func(m *msg.Msg) { m.Entries = row(6, n) })
				m.Entries[at] = e
				mayNotBe(t, fmt.Sprintf("%s at %d of %d", name, at, n), m)
			}
		}
	}
}

// TestMS1EntryKinds: of no kind of message an entry that may not be is passed over.
func TestMS1EntryKinds(t *testing.T) {
	for kind := 1; kind <= msg.MaxKind; kind++ {
		for name, e := range noEntries() {
			mayNotBe(t, name, msg.Msg{Kind: kind, From: 1, To: 2, Term: 1, Entries: []entry.Entry{e}})
		}
		mayNotBe(t, "too many", msg.Msg{Kind: kind, From: 1, To: 2, Term: 1, Entries: row(0, mostEntries+1)})
		mayNotBe(t, "too much data", msg.Msg{Kind: kind, From: 1, To: 2, Term: 1, Data: data(mostData + 1)})
	}
}

// TestMS1EntriesApart: entries that do not follow one another may be.
func TestMS1EntriesApart(t *testing.T) {
	backwards := row(6, 5)
	slices.Reverse(backwards)
	one := row(6, 1)[0]
	for name, l := range map[string][]entry.Entry{
		"backwards":              backwards,
		"the same twice":         {one, one},
		"with a gap":             {{Index: 7, Term: 2}, {Index: 9, Term: 2}},
		"of terms that fall":     {{Index: 7, Term: 9}, {Index: 8, Term: 2}},
		"not behind Index":       {{Index: 3, Term: 2}},
		"of a term above Term":   {{Index: 7, Term: 99}},
		"at both ends":           {{Index: api.MaxIndex, Term: 1}, {Index: 1, Term: api.MaxIndex}},
		"many of the last index": slices.Repeat([]entry.Entry{{Index: api.MaxIndex, Term: 3}}, mostEntries),
		"many of the first one":  slices.Repeat([]entry.Entry{{Index: 1, Term: 3}}, mostEntries),
	} {
		mayBe(t, name, changed(func(m *msg.Msg) { m.Entries = l }))
		mayBe(t, name, msg.Msg{Kind: msg.Vote, From: 1, To: 2, Term: 1, Entries: l})
	}
}

// TestMS1EntryBytes: an entry's bytes that are none, or have more behind.
func TestMS1EntryBytes(t *testing.T) {
	m := changed(func(m *msg.Msg) {
		m.Entries = []entry.Entry{{Index: 7, Term: 2, Kind: 1, Data: []byte("ab")}, {Index: 8, Term: 3}, {Index: 9, Term: 3, Kind: 2}}
	})
	for i, e := range m.Entries {
		at, s := partEntries+i, entryText(e)
		reads(t, "as it is", with(m, at, bytesThing(s)), m)
		for cut := range len(s) {
			unread(t, "with an entry cut short", with(m, at, bytesThing(s[:cut])))
			unread(t, "with an entry without its begin", with(m, at, bytesThing(s[cut+1:])))
		}
		for _, more := range []string{"\x00", " ", ";", "0", "n0;", "n1;", "y", "b0:", s} {
			unread(t, "with more behind an entry", with(m, at, bytesThing(s+more)))
			unread(t, "with more ahead of an entry", with(m, at, bytesThing(more+s)))
		}
		for _, bad := range []string{
			"", "b0:", "n" + s, s, "b" + s, "t" + bytesThing(s)[1:], "y", "n1;", "i1;", "b-1:" + s, "b:" + s, bytesThing(s) + bytesThing(s),
			bytesThing("n07;n2;n1;b2:ab"), bytesThing("n7;n02;n1;b2:ab"), bytesThing("n7;n2;n01;b2:ab"), bytesThing("n7;n2;n1;b02:ab"),
			bytesThing("i7;n2;n1;b2:ab"), bytesThing("n7;n2;n1;t2:ab"), bytesThing("n7;n2;n3;b2:ab"), bytesThing("n0;n2;n1;b2:ab"), bytesThing("n7;n0;n1;b2:ab"),
			bytesThing("n1099511627777;n2;n1;b2:ab"), bytesThing("n7;n1099511627777;n1;b2:ab"), bytesThing("n18446744073709551615;n2;n1;b2:ab"),
		} {
			unread(t, "with what is no entry", with(m, at, bad))
		}
	}
}

// TestMS1EntryLength: an entry's bytes up to the most that they may be, and about 4,200, of which no entry may be.
func TestMS1EntryLength(t *testing.T) {
	most := entry.Entry{Index: api.MaxIndex, Term: api.MaxIndex, Kind: 2, Data: data(mostData)}
	for _, l := range [][]entry.Entry{{most}, {most, most}, {{Index: 7, Term: 2}, most}, {most, {Index: 7, Term: 2}}} {
		m := changed(func(m *msg.Msg) { m.Entries = l })
		mayBe(t, "with the longest entries", m)
	}
	m := changed(func(m *msg.Msg) { m.Entries = []entry.Entry{{Index: 7, Term: 2}, {Index: 8, Term: 2}} })
	head := len("n7;n2;n1;b4180:")
	for n := mostEntry - 9; n <= mostEntry+9; n++ {
		e := entry.Entry{Index: 7, Term: 2, Kind: 1, Data: data(n - head)}
		if got := len(entryText(e)); got != n {
			t.Fatalf("%d bytes, not %d", got, n)
		}
		for i := range m.Entries {
			unread(t, "with too long an entry", with(m, partEntries+i, bytesThing(entryText(e))))
			unread(t, "with so many bytes that are no entry", with(m, partEntries+i, bytesThing(string(data(n)))))
			unread(t, "with more behind an entry, up to so many", with(m, partEntries+i, bytesThing(entryText(row(6, 1)[0])+string(data(n-20)))))
		}
	}
	unread(t, "with an entry far too long", with(m, partEntries, bytesThing(string(data(api.MaxBytes/2)))))
}

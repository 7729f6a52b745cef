package msg_test

import (
	"fmt"
	"math"
	"strconv"
	"strings"
	"testing"

	"tollbar/api"
	"tollbar/entry"
	"tollbar/msg"
	"tollbar/seal"
)

// What the document names.
const (
	mostWho     = 64
	mostData    = 4096
	mostEntries = 64
	mostEntry   = 4200
	frameKind   = 109
)

// told is a message as a text, with all that is in it.
func told(m msg.Msg) string {
	var s strings.Builder
	fmt.Fprintf(&s, "%d %d>%d %d, %d.%d %d %d %v %d %q", m.Kind, m.From, m.To, m.Term, m.Index, m.LogTerm, m.Commit, m.Round, m.OK, m.Off, m.Data)
	for _, e := range m.Entries {
		fmt.Fprintf(&s, " %d.%d.%d=%q", e.Index, e.Term, e.Kind, e.Data)
	}
	return s.String()
}

// short is a text of which the middle is left out where it is long.
func short(s string) string {
	if len(s) < 400 {
		return s
	}
	return s[:200] + " .. " + s[len(s)-200:]
}

// uints are numbers as bytes.
func uints(numbers ...int) []string {
	var l []string
	for _, n := range numbers {
		l = append(l, "n"+strconv.FormatUint(uint64(n), 10)+";")
	}
	return l
}

// bytesThing is a text laid as bytes are.
func bytesThing(s string) string { return "b" + strconv.Itoa(len(s)) + ":" + s }

// entryText is an entry as bytes.
func entryText(e entry.Entry) string {
	return strings.Join(uints(e.Index, e.Term, e.Kind), "") + bytesThing(string(e.Data))
}

// Where in a message's parts its things stand.
const (
	partOK      = 8
	partOff     = 9
	partData    = 10
	partCount   = 11
	partEntries = 12
)

// parts are a message as bytes, thing by thing.
func parts(m msg.Msg) []string {
	truth := "z"
	if m.OK {
		truth = "y"
	}
	l := uints(m.Kind, m.From, m.To, m.Term, m.Index, m.LogTerm, m.Commit, m.Round)
	l = append(l, truth)
	l = append(l, uints(m.Off)...)
	l = append(l, bytesThing(string(m.Data)))
	l = append(l, uints(len(m.Entries))...)
	for _, e := range m.Entries {
		l = append(l, bytesThing(entryText(e)))
	}
	return l
}

// text is a message as bytes.
func text(m msg.Msg) string { return strings.Join(parts(m), "") }

// with is a message as bytes, one of its parts another one.
func with(m msg.Msg, at int, part string) string {
	l := parts(m)
	l[at] = part
	return strings.Join(l, "")
}

// framed is a text with a kind ahead and the sum of both behind.
func framed(kind byte, s string) string {
	s = string([]byte{kind}) + s
	sum := seal.Sum([]byte(s))
	return s + string([]byte{byte(sum), byte(sum >> 8), byte(sum >> 16), byte(sum >> 24)})
}

// lays looks at a message's bytes, and at its frame.
func lays(t *testing.T, what string, m msg.Msg) {
	t.Helper()
	if got, want := string(msg.Encode(m)), text(m); got != want {
		t.Errorf("Encode, %s: %q, not %q", what, short(got), short(want))
	}
	if got, want := string(msg.Seal(m)), framed(frameKind, text(m)); got != want {
		t.Errorf("Seal, %s: %q, not %q", what, short(got), short(want))
	}
}

// reads looks at bytes, and at a frame of them, that must be a message's.
func reads(t *testing.T, what, in string, want msg.Msg) {
	t.Helper()
	if got, err := msg.Decode([]byte(in)); err != nil || told(got) != told(want) {
		t.Errorf("Decode, %s: %s, %v, not %s", what, short(told(got)), err, short(told(want)))
	}
	if got, err := msg.Open([]byte(framed(frameKind, in))); err != nil || told(got) != told(want) {
		t.Errorf("Open, %s: %s, %v, not %s", what, short(told(got)), err, short(told(want)))
	}
}

// unread looks at bytes that must be no message's, nor a frame of them one's.
func unread(t *testing.T, what, in string) {
	t.Helper()
	if got, err := msg.Decode([]byte(in)); err != api.ErrForm || told(got) != told(msg.Msg{}) {
		t.Errorf("Decode, %s: %s, %v, of %q", what, short(told(got)), err, short(in))
	}
	unopened(t, what, framed(frameKind, in))
}

// unopened looks at what must be no frame.
func unopened(t *testing.T, what, in string) {
	t.Helper()
	if got, err := msg.Open([]byte(in)); err != api.ErrForm || told(got) != told(msg.Msg{}) {
		t.Errorf("Open, %s: %s, %v, of %q", what, short(told(got)), err, short(in))
	}
}

// mayBe looks at every call on a message that may be.
func mayBe(t *testing.T, what string, m msg.Msg) {
	t.Helper()
	if err := msg.Check(m); err != nil {
		t.Errorf("Check, %s: %v, of %s", what, err, short(told(m)))
	}
	lays(t, what, m)
	reads(t, what, text(m), m)
}

// mayNotBe looks at every call on a message that may not be.
func mayNotBe(t *testing.T, what string, m msg.Msg) {
	t.Helper()
	if err := msg.Check(m); err != api.ErrArg {
		t.Errorf("Check, %s: %v, of %s", what, err, short(told(m)))
	}
	lays(t, what, m)
	unread(t, what, text(m))
}

// data are so many bytes, all of them in turn.
func data(n int) []byte {
	b := make([]byte, n)
	for i := range b {
		b[i] = byte(i)
	}
	return b
}

// row are so many entries behind an index, of all kinds in turn.
func row(index, n int) []entry.Entry {
	var l []entry.Entry
	for i := range n {
		l = append(l, entry.Entry{Index: index + 1 + i, Term: 2 + i/2, Kind: i % 3, Data: data(i % 4)})
	}
	return l
}

// plain is a message that may be, with all that one can have.
func plain() msg.Msg {
	return msg.Msg{Kind: msg.Append, From: 2, To: 5, Term: 7, Index: 6, LogTerm: 5, Commit: 4, Round: 9, OK: true, Off: 8, Data: []byte("ab"), Entries: row(6, 3)}
}

// changed is a plain message with a change.
func changed(change func(m *msg.Msg)) msg.Msg {
	m := plain()
	change(&m)
	return m
}

// greatest is a message that may be of which no other one has more bytes.
func greatest() msg.Msg {
	most := api.MaxIndex
	m := msg.Msg{Kind: msg.MaxKind, From: mostWho, To: mostWho - 1, Term: most, Index: most, LogTerm: most, Commit: most, Round: most, OK: true, Off: most, Data: data(mostData)}
	for range mostEntries {
		m.Entries = append(m.Entries, entry.Entry{Index: most, Term: most, Kind: entry.Member, Data: data(mostData)})
	}
	return m
}

// field is one of a message's numbers: where its bytes stand, how it is set, and what it may be.
type field struct {
	name        string
	at          int
	least, most int
	set         func(m *msg.Msg, n int)
}

// fields are all numbers of a message.
func fields() []field {
	return []field{
		{"Kind", 0, 1, 6, func(m *msg.Msg, n int) { m.Kind = n }},
		{"From", 1, 1, mostWho, func(m *msg.Msg, n int) { m.From = n }},
		{"To", 2, 1, mostWho, func(m *msg.Msg, n int) { m.To = n }},
		{"Term", 3, 1, api.MaxIndex, func(m *msg.Msg, n int) { m.Term = n }},
		{"Index", 4, 0, api.MaxIndex, func(m *msg.Msg, n int) { m.Index = n }},
		{"LogTerm", 5, 0, api.MaxIndex, func(m *msg.Msg, n int) { m.LogTerm = n }},
		{"Commit", 6, 0, api.MaxIndex, func(m *msg.Msg, n int) { m.Commit = n }},
		{"Round", 7, 0, api.MaxIndex, func(m *msg.Msg, n int) { m.Round = n }},
		{"Off", partOff, 0, api.MaxIndex, func(m *msg.Msg, n int) { m.Off = n }},
	}
}

// numbers are some about all bounds, and some that a smaller number would have for one within them.
func numbers() []int {
	l := []int{math.MinInt, math.MinInt + 1, -api.MaxIndex - 1, -api.MaxIndex, -65, -64, -7, -6, -2, -1, 0, 1, 3, 4, 6, 7, 8, 63, 64, 65, 66, 128, api.MaxIndex - 1, api.MaxIndex, api.MaxIndex + 1, api.MaxIndex + 2, 2 * api.MaxIndex, math.MaxInt - 1, math.MaxInt}
	for _, n := range []int{1, 6, 64} {
		l = append(l, n+1<<8, n+1<<16, n+1<<32, n+1<<41, n-1<<8, n-1<<32, n-1<<62)
	}
	return l
}

// TestExample: the example of chapter 11, byte by byte.
func TestExample(t *testing.T) {
	m := msg.Msg{Kind: msg.Vote, From: 1, To: 2, Term: 3}
	mayBe(t, "the example", m)
	const bytes, frame = "n1;n1;n2;n3;n0;n0;n0;n0;zn0;b0:n0;", "mn1;n1;n2;n3;n0;n0;n0;n0;zn0;b0:n0;\xd5\xda\xc8\xb9"
	if got := string(msg.Encode(m)); got != bytes {
		t.Errorf("Encode: %q", got)
	}
	if got := string(msg.Seal(m)); got != frame {
		t.Errorf("Seal: %q", got)
	}
	if got, err := msg.Open([]byte(frame)); err != nil || told(got) != told(m) {
		t.Errorf("Open: %s, %v", told(got), err)
	}
}

// TestMS1Order: every thing stands at its own place.
func TestMS1Order(t *testing.T) {
	m := msg.Msg{Kind: msg.Append, From: 64, To: 1, Term: 7, Index: 5, LogTerm: 6, Commit: 4, Round: 9, OK: true, Off: 8, Data: []byte("ab"), Entries: []entry.Entry{
		{Index: 6, Term: 7, Kind: entry.Order, Data: []byte("cd")}, {Index: 7, Term: 7},
	}}
	mayBe(t, "of numbers of which no two are the same", m)
	const frame = "mn3;n64;n1;n7;n5;n6;n4;n9;yn8;b2:abn2;b14:n6;n7;n1;b2:cdb12:n7;n7;n0;b0:\x83\xbe\x63\xa2"
	if got := string(msg.Seal(m)); got != frame {
		t.Errorf("Seal: %q", got)
	}
	if got, err := msg.Open([]byte(frame)); err != nil || told(got) != told(m) {
		t.Errorf("Open: %s, %v", told(got), err)
	}
}

// TestMS1Kinds: the kinds in their order, each of which a message may be of.
func TestMS1Kinds(t *testing.T) {
	for i, kind := range []int{msg.Vote, msg.Voted, msg.Append, msg.Added, msg.Piece, msg.Pieced} {
		if kind != i+1 {
			t.Errorf("The kind %d is %d", i+1, kind)
		}
		mayBe(t, "with nothing but its kind", msg.Msg{Kind: kind, From: 1, To: 2, Term: 1})
		mayBe(t, "with all of it", changed(func(m *msg.Msg) { m.Kind = kind }))
	}
	if msg.MaxKind != 6 {
		t.Errorf("MaxKind: %d", msg.MaxKind)
	}
}

// TestMS1Zero: the zero message.
func TestMS1Zero(t *testing.T) {
	mayNotBe(t, "zero", msg.Msg{})
	if got := string(msg.Encode(msg.Msg{})); got != "n0;n0;n0;n0;n0;n0;n0;n0;zn0;b0:n0;" {
		t.Errorf("Encode of zero: %q", got)
	}
}

// TestMS1Numbers: every number, each by itself, about its bounds.
func TestMS1Numbers(t *testing.T) {
	for _, f := range fields() {
		for _, n := range append(numbers(), f.least-1, f.least, f.most, f.most+1) {
			m := changed(func(m *msg.Msg) { f.set(m, n) })
			what := fmt.Sprintf("with %s %d", f.name, n)
			if n >= f.least && n <= f.most && m.From != m.To {
				mayBe(t, what, m)
			} else {
				mayNotBe(t, what, m)
			}
		}
	}
}

// TestMS1Alone: what may not be is found where all else is zero too, and what may be needs nothing else.
func TestMS1Alone(t *testing.T) {
	for _, f := range fields() {
		for _, n := range append(numbers(), f.least-1, f.least, f.most, f.most+1) {
			m := msg.Msg{Kind: 1, From: 63, To: 64, Term: 1}
			f.set(&m, n)
			what := fmt.Sprintf("with %s %d alone", f.name, n)
			if n >= f.least && n <= f.most && m.From != m.To {
				mayBe(t, what, m)
			} else {
				mayNotBe(t, what, m)
			}
		}
	}
}

// TestMS1Who: all from whom and to whom a message may be, and those beside them.
func TestMS1Who(t *testing.T) {
	for from := -1; from <= mostWho+1; from++ {
		for to := -1; to <= mostWho+1; to++ {
			m := changed(func(m *msg.Msg) { m.From, m.To, m.Entries = from, to, nil })
			what := fmt.Sprintf("%d to %d", from, to)
			if from >= 1 && from <= mostWho && to >= 1 && to <= mostWho && from != to {
				mayBe(t, what, m)
			} else {
				mayNotBe(t, what, m)
			}
		}
	}
}

// TestMS1Bounds: all numbers at their least and at their greatest at once.
func TestMS1Bounds(t *testing.T) {
	mayBe(t, "the least", msg.Msg{Kind: 1, From: 1, To: 2, Term: 1})
	mayBe(t, "the greatest", greatest())
	for _, n := range []int{math.MinInt, -1, math.MaxInt} {
		mayNotBe(t, "all of one number", msg.Msg{Kind: n, From: n, To: n, Term: n, Index: n, LogTerm: n, Commit: n, Round: n, Off: n, Entries: []entry.Entry{{Index: n, Term: n, Kind: n}}})
	}
	mayBe(t, "not less than another", msg.Msg{Kind: msg.Append, From: 64, To: 1, Term: 1, Index: 1, LogTerm: api.MaxIndex, Commit: api.MaxIndex, Round: api.MaxIndex, Entries: []entry.Entry{{Index: 9, Term: 8}}})
}

// TestMS1OK: both truths, with every kind.
func TestMS1OK(t *testing.T) {
	for kind := 1; kind <= 6; kind++ {
		for _, ok := range []bool{false, true} {
			mayBe(t, "with a truth", changed(func(m *msg.Msg) { m.Kind, m.OK = kind, ok }))
			mayNotBe(t, "with a truth", changed(func(m *msg.Msg) { m.Kind, m.OK, m.Term = kind, ok, 0 }))
		}
	}
}

// TestMS1Data: as many bytes as may be, and more; none is none, nil or not.
func TestMS1Data(t *testing.T) {
	for _, n := range []int{0, 1, 2, 9, 10, 99, 100, 999, 1000, mostData - 1, mostData} {
		mayBe(t, "with such data", changed(func(m *msg.Msg) { m.Data = data(n) }))
		mayBe(t, "with such data alone", msg.Msg{Kind: 5, From: 1, To: 2, Term: 1, Data: data(n)})
	}
	for _, n := range []int{mostData + 1, mostData + 2, mostEntry, mostEntry + 1, 2 * mostData, 1<<16 + 1} {
		mayNotBe(t, "with too much data", changed(func(m *msg.Msg) { m.Data = data(n) }))
		mayNotBe(t, "with too much data alone", msg.Msg{Kind: 5, From: 1, To: 2, Term: 1, Data: data(n)})
	}
	mayBe(t, "with no data", changed(func(m *msg.Msg) { m.Data = nil }))
	mayBe(t, "with empty data", changed(func(m *msg.Msg) { m.Data = []byte{} }))
	for b := range 256 {
		mayBe(t, "with data of one byte", changed(func(m *msg.Msg) { m.Data = []byte{byte(b)} }))
	}
	mayBe(t, "with data that look like the rest", changed(func(m *msg.Msg) { m.Data = []byte("abn3;" + entryText(row(6, 1)[0])) }))
	mayBe(t, "with data that are a message", changed(func(m *msg.Msg) { m.Data = []byte(text(plain())) }))
}

// TestMS1Count: as many entries as may be, and more; none are none, nil or not.
func TestMS1Count(t *testing.T) {
	for n := range mostEntries + 1 {
		mayBe(t, "with such entries", changed(func(m *msg.Msg) { m.Entries = row(6, n) }))
	}
	for _, n := range []int{mostEntries + 1, mostEntries + 2, 2 * mostEntries, 256, 257, api.MaxList} {
		mayNotBe(t, "with too many entries", changed(func(m *msg.Msg) { m.Entries = row(6, n) }))
	}
	mayBe(t, "with no entries", changed(func(m *msg.Msg) { m.Entries = nil }))
	mayBe(t, "with empty entries", changed(func(m *msg.Msg) { m.Entries = []entry.Entry{} }))
}

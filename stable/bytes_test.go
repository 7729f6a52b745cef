package stable_test

import (
	"fmt"
	"math"
	"strings"
	"testing"

	"tollbar/api"
	"tollbar/conf"
	"tollbar/entry"
	"tollbar/raft"
	"tollbar/stable"
)

// number is a number as bytes.
func number(n int) string { return fmt.Sprintf("n%d;", uint64(n)) }

// text is bytes as bytes.
func text(s string) string { return fmt.Sprintf("b%d:%s", len(s), s) }

// plainEntry is an entry as bytes.
func plainEntry(e entry.Entry) string {
	return number(e.Index) + number(e.Term) + number(e.Kind) + text(string(e.Data))
}

// plainConf are members as bytes.
func plainConf(c conf.Conf) string {
	s := number(len(c))
	for _, who := range c {
		s += number(who)
	}
	return s
}

// plain is what is kept, as bytes.
func plain(n int, s raft.Stored) string {
	var b strings.Builder
	for _, n := range []int{n, s.Term, s.Vote, s.Log.Base, s.Log.Term} {
		b.WriteString(number(n))
	}
	b.WriteString(text(plainConf(s.Conf)) + text(string(s.Snap)) + number(len(s.Log.L)))
	for _, e := range s.Log.L {
		b.WriteString(text(plainEntry(e)))
	}
	return b.String()
}

// numbers are some about the bounds, and such as a smaller number would have for others.
func numbers() []int {
	return []int{math.MinInt, -1 << 40, -2, -1, 0, 1, 2, 9, 10, 255, 256, 1 << 31, 1 << 32, api.MaxIndex - 1, api.MaxIndex, api.MaxIndex + 1, math.MaxInt}
}

// saveNumbers are those that a save may have.
func saveNumbers() []int { return []int{1, 2, 9, 10, 1 << 32, api.MaxIndex - 1, api.MaxIndex} }

// decodes looks at what bytes tell.
func decodes(t *testing.T, what, b string, n int, s raft.Stored) {
	t.Helper()
	number, got, err := stable.Decode([]byte(b))
	if err != nil || number != n || shown(got) != shown(s) {
		t.Errorf("Decode, %s: %d, %s, %v, not %d, %s", what, number, short(shown(got)), err, n, short(shown(s)))
	}
}

// refuses looks at that bytes tell nothing.
func refuses(t *testing.T, what, b string) {
	t.Helper()
	if n, s, err := stable.Decode([]byte(b)); err != api.ErrForm || n != 0 || shown(s) != nothing {
		t.Errorf("Decode, %s: %d, %s, %v", what, n, short(shown(s)), err)
	}
}

// TestST1EncodeBytes: some, byte by byte.
func TestST1EncodeBytes(t *testing.T) {
	l := []struct {
		n    int
		s    raft.Stored
		want string
	}{
		{1, begun(1, 2, 3), "n1;n0;n0;n0;n0;b12:n3;n1;n2;n3;b0:n0;"},
		{0, raft.Stored{}, "n0;n0;n0;n0;n0;b3:n0;b0:n0;"},
		{12, rich(), "n12;n7;n3;n5;n2;b13:n3;n1;n2;n30;b7:a text\x00n3;b14:n6;n2;n1;b2:abb21:n7;n4;n2;b9:n2;n1;n2;b12:n8;n7;n0;b0:"},
		{-1, raft.Stored{Term: -2, Vote: -3, Log: logOf(-4, -5), Conf: conf.Conf{-6}},
			"n18446744073709551615;n18446744073709551614;n18446744073709551613;n18446744073709551612;n18446744073709551611;b25:n1;n18446744073709551610;b0:n0;"},
		{math.MinInt, raft.Stored{Term: math.MaxInt, Vote: 65, Log: logOf(0, 0, of(-1, -2, -3, "x"))},
			"n9223372036854775808;n9223372036854775807;n65;n0;n0;b3:n0;b0:n1;b70:n18446744073709551615;n18446744073709551614;n18446744073709551613;b1:x"},
	}
	for _, x := range l {
		if got := string(stable.Encode(x.n, x.s)); got != x.want {
			t.Errorf("Encode of %d, %s: %q, not %q", x.n, shown(x.s), got, x.want)
		}
	}
}

// TestST1Encode: all that may be and may not, with all numbers.
func TestST1Encode(t *testing.T) {
	for name, s := range mayBe() {
		if got := string(stable.Encode(3, s)); got != plain(3, s) {
			t.Errorf("Encode, %s: %q", name, short(got))
		}
	}
	for name, s := range mayNot() {
		if got := string(stable.Encode(3, s)); got != plain(3, s) {
			t.Errorf("Encode, %s: %q", name, short(got))
		}
	}
	for _, n := range numbers() {
		for name, s := range placed(n) {
			if got := string(stable.Encode(n, s)); got != plain(n, s) {
				t.Errorf("Encode of %d, %s: %q, not %q", n, name, got, plain(n, s))
			}
		}
	}
}

// placed are some with a number at one place.
func placed(n int) map[string]raft.Stored {
	return map[string]raft.Stored{
		"Term": {Term: n}, "Vote": {Vote: n}, "Base": {Log: logOf(n, 0)}, "the log's Term": {Log: logOf(0, n)}, "Conf": {Conf: conf.Conf{n, 7}},
		"an index": {Log: logOf(0, 0, of(n, 2, 0, "x"))}, "a term": {Log: logOf(0, 0, of(2, n, 0, "x"))}, "a kind": {Log: logOf(0, 0, of(2, 3, n, "x"))},
	}
}

// TestST1EncodeLong: more than any call else takes.
func TestST1EncodeLong(t *testing.T) {
	s := raft.Stored{Conf: make(conf.Conf, 100), Snap: []byte(strings.Repeat("t", api.MaxBytes+7)), Log: entry.Log{L: many(0, api.MaxList+9)}}
	if got := string(stable.Encode(1, s)); got != plain(1, s) {
		t.Errorf("Encode: %q", short(got))
	}
}

// TestST1Decode: what Encode lays of what may be, of whatever save; nothing of what may not.
func TestST1Decode(t *testing.T) {
	for name, s := range mayBe() {
		for _, n := range saveNumbers() {
			decodes(t, name, plain(n, s), n, s)
		}
		for _, n := range []int{math.MinInt, -1, 0, api.MaxIndex + 1, math.MaxInt} {
			refuses(t, fmt.Sprint(name, ", as the save ", n), plain(n, s))
		}
	}
	for name, s := range mayNot() {
		refuses(t, name, plain(1, s))
	}
}

// TestST1DecodeWhole: no begin of the bytes, and nothing behind them.
func TestST1DecodeWhole(t *testing.T) {
	for _, s := range []raft.Stored{begun(1), rich(), with(rich(), func(s *raft.Stored) { s.Log.L = nil }), with(rich(), func(s *raft.Stored) { s.Snap = nil })} {
		b := plain(5, s)
		for i := range b {
			refuses(t, fmt.Sprint("a begin of ", i), b[:i])
		}
		for c := range 256 {
			refuses(t, "one more behind", b+string([]byte{byte(c)}))
			refuses(t, "one more ahead", string([]byte{byte(c)})+b)
		}
		refuses(t, "twice", b+b)
	}
	for name, s := range map[string]raft.Stored{"much text": mayBe()["much text"], "many entries": mayBe()["many entries"], "a long entry": mayBe()["a long entry"]} {
		b := plain(5, s)
		refuses(t, name+" less one", b[:len(b)-1])
		refuses(t, name+" and one", b+"n")
	}
}

// TestST1DecodeNumbers: each number at MaxIndex, and one more; a vote at 64, and one more.
func TestST1DecodeNumbers(t *testing.T) {
	most := raft.Stored{Term: api.MaxIndex, Vote: 64, Log: logOf(api.MaxIndex, api.MaxIndex), Conf: conf.Conf{1}}
	decodes(t, "all at their most", plain(api.MaxIndex, most), api.MaxIndex, most)
	over := map[string]string{
		"the save":       plain(api.MaxIndex+1, most),
		"Term":           plain(1, with(most, func(s *raft.Stored) { s.Term++ })),
		"Vote":           plain(1, with(most, func(s *raft.Stored) { s.Vote++ })),
		"Vote, far":      plain(1, with(most, func(s *raft.Stored) { s.Vote = api.MaxIndex })),
		"Base":           plain(1, with(most, func(s *raft.Stored) { s.Log.Base++ })),
		"the log's Term": plain(1, with(most, func(s *raft.Stored) { s.Log.Term++ })),
	}
	for name, b := range over {
		refuses(t, name, b)
	}
	// Numbers that an int would have for others.
	far := []string{"n18446744073709551615;", "n18446744073709551616;", "n18446744073709551617;", "n4294967296;", "n01;", "n00;", "n;", "i1;", "n-1;", "n+1;", "n1:", "n 1;", "t1:1", "y"}
	decodes(t, "all 1", strings.Repeat("n1;", 5)+"b6:n1;n1;b0:n0;", 1, raft.Stored{Term: 1, Vote: 1, Log: logOf(1, 1), Conf: conf.Conf{1}})
	for place := range 5 {
		for _, x := range far {
			parts := []string{"n1;", "n1;", "n1;", "n1;", "n1;"}
			parts[place] = x
			b := strings.Join(parts, "") + "b6:n1;n1;b0:n0;"
			if x == "n4294967296;" && place != 2 && place != 4 {
				continue // it may be as a save's, Term and Base
			}
			refuses(t, fmt.Sprintf("%s at %d", x, place), b)
		}
	}
}

// parts are the bytes of what is kept, the numbers ahead being those of a begin; count is that of entries.
type parts struct {
	conf, snap string
	count      int
	entries    []string
}

// bytes are they all.
func (p parts) bytes() string {
	return "n1;n1;n0;n0;n0;" + text(p.conf) + text(p.snap) + number(p.count) + strings.Join(p.entries, "")
}

// TestST1DecodeConf: bytes of members: of as many as may be taken, of more, and such as tell none.
func TestST1DecodeConf(t *testing.T) {
	good := parts{conf: "n1;n1;"}
	decodes(t, "good", good.bytes(), 1, raft.Stored{Term: 1, Conf: conf.Conf{1}})
	for _, c := range []string{"", "n", "n0;", "n1;", "n1;n1", "n1;n1;n", "n1;n1;n2;", "n2;n1;", "n1;n0;", "n1;n65;", "n2;n1;n1;", "n2;n2;n1;", "n8;n1;n2;n3;n4;n5;n6;n7;n8;", "i1;n1;", "n01;n1;", "b0:"} {
		refuses(t, fmt.Sprintf("members %q", c), parts{conf: c}.bytes())
	}
	for _, n := range []int{511, 512, 513, 514, api.MaxBytes} {
		refuses(t, fmt.Sprint("members of ", n, " bytes"), parts{conf: "n1;n1;" + strings.Repeat("n", n-6)}.bytes())
	}
}

// TestST1DecodeSnap: a text of as many bytes as may be, and of more.
func TestST1DecodeSnap(t *testing.T) {
	for _, n := range []int{0, 1, api.MaxBytes - 1, api.MaxBytes} {
		s := raft.Stored{Term: 1, Conf: conf.Conf{1}, Snap: []byte(strings.Repeat("\xff", n))}
		decodes(t, fmt.Sprint(n, " bytes"), plain(1, s), 1, s)
	}
	for _, n := range []int{api.MaxBytes + 1, 2 * api.MaxBytes} {
		refuses(t, fmt.Sprint(n, " bytes"), parts{conf: "n1;n1;", snap: strings.Repeat("t", n)}.bytes())
	}
}

// TestST1DecodeEntries: as many entries as may be, and more; each of as many bytes as may be, of more, and such as tell none.
func TestST1DecodeEntries(t *testing.T) {
	of1 := func(count int, entries ...string) string {
		return parts{conf: "n1;n1;", count: count, entries: entries}.bytes()
	}
	one, two := text("n1;n1;n1;b1:x"), text("n2;n1;n0;b0:")
	s := raft.Stored{Term: 1, Conf: conf.Conf{1}, Log: logOf(0, 0, of(1, 1, 1, "x"), of(2, 1, 0, ""))}
	decodes(t, "two", of1(2, one, two), 1, s)
	for count := range 5 {
		if count != 2 {
			refuses(t, fmt.Sprint("two, told as ", count), of1(count, one, two))
		}
	}
	refuses(t, "told as below 0", of1(-1))
	for _, x := range []string{"", "?", "n1;n1;n1;b1:", "n1;n1;n1;b1:xx", "n1;n1;n3;b0:", "n0;n1;n1;b0:", "n1;n0;n1;b0:", "n1;n1;n2;b0:", "n1;n1;n1;t1:x", "n1;n1;b0:"} {
		refuses(t, fmt.Sprintf("an entry %q", x), of1(1, text(x)))
		refuses(t, fmt.Sprintf("two entries, of which %q", x), of1(2, one, text(strings.Replace(x, "n1;", "n2;", 1))))
	}
	refuses(t, "an entry that is none of bytes", of1(1, "t12:n1;n1;n1;b0:"))
	for _, n := range []int{api.MaxList - 1, api.MaxList} {
		s := raft.Stored{Term: 1, Conf: conf.Conf{1}, Log: logOf(0, 0, many(0, n)...)}
		decodes(t, fmt.Sprint(n, " entries"), plain(1, s), 1, s)
	}
	for _, n := range []int{api.MaxList + 1, 2 * api.MaxList} {
		refuses(t, fmt.Sprint(n, " entries"), plain(1, raft.Stored{Term: 1, Conf: conf.Conf{1}, Log: logOf(0, 0, many(0, n)...)}))
	}
	for _, n := range []int{4199, 4200, 4201, 5000} {
		refuses(t, fmt.Sprint("an entry of ", n, " bytes"), of1(1, text("n1;n1;n1;b4096:"+strings.Repeat("d", n-15))))
	}
}

// TestST1DecodeOther: bytes of another form altogether.
func TestST1DecodeOther(t *testing.T) {
	for _, b := range []string{"", "n", "b0:", "n1;", strings.Repeat("\x00", 60), strings.Repeat("n1;", 30), plainEntry(of(1, 1, 1, "x")), plainConf(conf.Conf{1, 2})} {
		refuses(t, fmt.Sprintf("%q", b), b)
	}
	if n, s, err := stable.Decode(nil); err != api.ErrForm || n != 0 || shown(s) != nothing {
		t.Errorf("Decode of nil: %d, %s, %v", n, shown(s), err)
	}
}

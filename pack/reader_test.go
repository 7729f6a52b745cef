package pack_test

import (
	"math"
	"strconv"
	"strings"
	"testing"

	"tollbar/api"
	"tollbar/pack"
)

// call is one of a reader's calls, with what it answers as text, so that all can be looked at alike.
type call struct {
	name    string
	letters string // that it takes
	zero    string // its zero value
	do      func(r *pack.Reader) string
}

func uintCall(most uint64) call {
	return call{"Uint(" + strconv.FormatUint(most, 10) + ")", "n", "0", func(r *pack.Reader) string { return strconv.FormatUint(r.Uint(most), 10) }}
}

func intCall() call {
	return call{"Int()", "i", "0", func(r *pack.Reader) string { return strconv.Itoa(r.Int()) }}
}

func countCall(most int) call {
	return call{"Count(" + strconv.Itoa(most) + ")", "n", "0", func(r *pack.Reader) string { return strconv.Itoa(r.Count(most)) }}
}

func boolCall() call {
	return call{"Bool()", "yz", "false", func(r *pack.Reader) string { return strconv.FormatBool(r.Bool()) }}
}

func textCall(most int) call {
	return call{"Text(" + strconv.Itoa(most) + ")", "t", "", func(r *pack.Reader) string { return r.Text(most) }}
}

func bytesCall(most int) call {
	return call{"Bytes(" + strconv.Itoa(most) + ")", "b", "", func(r *pack.Reader) string { return string(r.Bytes(most)) }}
}

// wide are all calls, with bounds that forbid nothing.
func wide() []call {
	return []call{uintCall(math.MaxUint64), intCall(), countCall(math.MaxInt), boolCall(), textCall(math.MaxInt), bytesCall(math.MaxInt)}
}

// takes looks at a call that takes something off, and leaves so many bytes.
func takes(t *testing.T, in string, c call, want string, left int) {
	t.Helper()
	r := pack.Read([]byte(in))
	got := c.do(r)
	if got != want || r.Left() != left {
		t.Errorf("%s of %q: %q with %d left, not %q with %d", c.name, in, got, r.Left(), want, left)
	}
	var done error
	if left > 0 {
		done = api.ErrForm
	}
	if err := r.Done(); err != done {
		t.Errorf("%s of %q: Done %v, not %v", c.name, in, err, done)
	}
}

// fails looks at a call that answers an error: the zero value, nothing taken off, the error kept.
func fails(t *testing.T, in string, c call, want error) {
	t.Helper()
	r := pack.Read([]byte(in))
	got := c.do(r)
	if got != c.zero || r.Left() != len(in) {
		t.Errorf("%s of %q: %q with %d left, not %q with %d", c.name, in, got, r.Left(), c.zero, len(in))
	}
	if err := r.Done(); err != want {
		t.Errorf("%s of %q: Done %v, not %v", c.name, in, err, want)
	}
	if k := r.Kind(); k != 0 {
		t.Errorf("%s of %q: Kind %q behind an error", c.name, in, k)
	}
}

const (
	most64  = "18446744073709551615" // 2^64 - 1
	above64 = "18446744073709551616"
)

// TestPK2Digits: each fault of digits, for each letter that has some; $ stands for the sign that ends them.
func TestPK2Digits(t *testing.T) {
	nines, noughts := strings.Repeat("9", 20), strings.Repeat("0", 20)
	cases := []struct {
		digits string
		want   error
	}{
		{"", api.ErrEnd},
		{"0", api.ErrEnd},
		{"7", api.ErrEnd},
		{"00", api.ErrEnd},
		{"01", api.ErrEnd},
		{nines, api.ErrEnd},
		{noughts, api.ErrEnd},
		{above64, api.ErrEnd},
		{nines + "9", api.ErrForm},
		{noughts + "0", api.ErrForm},
		{"$", api.ErrForm},
		{"$1", api.ErrForm},
		{"00$", api.ErrForm},
		{"01$", api.ErrForm},
		{"010$", api.ErrForm},
		{"0" + strings.Repeat("1", 19) + "$", api.ErrForm},
		{above64 + "$", api.ErrForm},
		{"18446744073709551620$", api.ErrForm},
		{nines + "$", api.ErrForm},
		{nines + "9$", api.ErrForm},
		{noughts + "$", api.ErrForm},
		{noughts + "1$", api.ErrForm},
		{"1" + noughts + "$", api.ErrForm},
		{nines + "x", api.ErrForm},
		{"x", api.ErrForm},
		{"x$", api.ErrForm},
		{"1x", api.ErrForm},
		{"1x$", api.ErrForm},
		{" 1$", api.ErrForm},
		{"1 $", api.ErrForm},
		{"+1$", api.ErrForm},
		{"--1$", api.ErrForm},
		{"1-$", api.ErrForm},
		{"1-1$", api.ErrForm},
		{"1_0$", api.ErrForm},
		{"0x1$", api.ErrForm},
		{"1.$", api.ErrForm},
		{"1e1$", api.ErrForm},
		{"1/$", api.ErrForm},
		{"\x001$", api.ErrForm},
		{"1\xff$", api.ErrForm},
		{"\u0661$", api.ErrForm},
	}
	for _, c := range wide() {
		if c.letters == "yz" {
			continue
		}
		sign, other := ";", ":"
		if c.letters == "t" || c.letters == "b" {
			sign, other = ":", ";"
		}
		for _, d := range cases {
			fails(t, c.letters+strings.ReplaceAll(d.digits, "$", sign), c, d.want)
		}
		fails(t, c.letters+"1"+other, c, api.ErrForm)
		fails(t, c.letters+other+"1"+sign, c, api.ErrForm)
	}
}

// TestPK2Signs: a sign above a number that is below 0 is Int's alone.
func TestPK2Signs(t *testing.T) {
	fails(t, "n-1;", uintCall(math.MaxUint64), api.ErrForm)
	fails(t, "n-0;", uintCall(math.MaxUint64), api.ErrForm)
	fails(t, "n-", countCall(math.MaxInt), api.ErrForm)
	fails(t, "t-0:", textCall(9), api.ErrForm)
	fails(t, "b-1:a", bytesCall(9), api.ErrForm)
}

// TestPK2EachByte: of all bytes the ten digits and the sign alone may stand there, whether the sign comes or not.
func TestPK2EachByte(t *testing.T) {
	for b := range 256 {
		in := "n1" + string([]byte{byte(b)})
		switch {
		case b == ';':
			takes(t, in, uintCall(99), "1", 0)
			takes(t, in+";", uintCall(99), "1", 1)
		case b >= '0' && b <= '9':
			fails(t, in, uintCall(99), api.ErrEnd)
			takes(t, in+";", uintCall(99), "1"+string(rune(b)), 0)
		default:
			fails(t, in, uintCall(99), api.ErrForm)
			fails(t, in+";", uintCall(99), api.ErrForm)
		}
	}
}

// TestPK3Letters: every call at every first byte, and at no byte.
func TestPK3Letters(t *testing.T) {
	for _, c := range wide() {
		fails(t, "", c, api.ErrEnd)
		for b := range 256 {
			if !strings.ContainsRune(c.letters, rune(b)) {
				fails(t, string([]byte{byte(b)}), c, api.ErrForm)
				fails(t, string([]byte{byte(b)})+"1;1:a", c, api.ErrForm)
			}
		}
	}
}

// TestPK3Uint: numbers up to a bound.
func TestPK3Uint(t *testing.T) {
	takes(t, "n0;", uintCall(0), "0", 0)
	takes(t, "n1;", uintCall(1), "1", 0)
	takes(t, "n300;y", uintCall(1000), "300", 1)
	takes(t, "n"+most64+";", uintCall(math.MaxUint64), most64, 0)
	takes(t, "n9999999999999999999;", uintCall(math.MaxUint64), "9999999999999999999", 0)
	takes(t, "n10000000000000000000;", uintCall(math.MaxUint64), "10000000000000000000", 0)
	fails(t, "n1;", uintCall(0), api.ErrRange)
	fails(t, "n301;", uintCall(300), api.ErrRange)
	fails(t, "n"+most64+";", uintCall(math.MaxUint64-1), api.ErrRange)
	fails(t, "n"+above64+";", uintCall(0), api.ErrForm)
	fails(t, "n2", uintCall(1), api.ErrEnd)
}

// TestPK3Int: numbers of both signs, to the bounds of an int and about them.
func TestPK3Int(t *testing.T) {
	greatest, least := strconv.Itoa(math.MaxInt), strconv.Itoa(math.MinInt)
	beyond := strconv.FormatUint(math.MaxInt+1, 10)
	below := strconv.FormatUint(math.MaxInt+2, 10)
	takes(t, "i0;", intCall(), "0", 0)
	takes(t, "i7;", intCall(), "7", 0)
	takes(t, "i-7;n", intCall(), "-7", 1)
	takes(t, "i-10;", intCall(), "-10", 0)
	takes(t, "i"+greatest+";", intCall(), greatest, 0)
	takes(t, "i-"+greatest+";", intCall(), "-"+greatest, 0)
	takes(t, "i"+least+";", intCall(), least, 0)
	fails(t, "i"+beyond+";", intCall(), api.ErrRange)
	fails(t, "i-"+below+";", intCall(), api.ErrRange)
	fails(t, "i"+most64+";", intCall(), api.ErrRange)
	fails(t, "i-"+most64+";", intCall(), api.ErrRange)
	fails(t, "i-"+above64+";", intCall(), api.ErrForm)
	fails(t, "i-0;", intCall(), api.ErrForm)
	fails(t, "i-00;", intCall(), api.ErrForm)
	fails(t, "i-01;", intCall(), api.ErrForm)
	fails(t, "i-;", intCall(), api.ErrForm)
	fails(t, "i-", intCall(), api.ErrEnd)
	fails(t, "i-0", intCall(), api.ErrEnd)
	fails(t, "i--", intCall(), api.ErrForm)
	fails(t, "i-+1;", intCall(), api.ErrForm)
	fails(t, "i-"+strings.Repeat("9", 20), intCall(), api.ErrEnd)
	fails(t, "i-"+strings.Repeat("9", 21), intCall(), api.ErrForm)
}

// TestPK3Count: how many things come, against a bound and against what is left.
func TestPK3Count(t *testing.T) {
	takes(t, "n0;", countCall(0), "0", 0)
	takes(t, "n0;", countCall(-1), "0", 0)
	takes(t, "n0;", countCall(math.MinInt), "0", 0)
	takes(t, "n3;yyy", countCall(3), "3", 3)
	takes(t, "n2;yyy", countCall(3), "2", 3)
	takes(t, "n3;yyy", countCall(math.MaxInt), "3", 3)
	fails(t, "n1;y", countCall(0), api.ErrRange)
	fails(t, "n1;y", countCall(-1), api.ErrRange)
	fails(t, "n1;y", countCall(math.MinInt), api.ErrRange)
	fails(t, "n4;yyyy", countCall(3), api.ErrRange)
	fails(t, "n4;yyy", countCall(3), api.ErrRange)
	fails(t, "n4;yyy", countCall(4), api.ErrLong)
	fails(t, "n1;", countCall(1), api.ErrLong)
	fails(t, "n"+strconv.Itoa(math.MaxInt)+";y", countCall(math.MaxInt), api.ErrLong)
	fails(t, "n"+strconv.FormatUint(math.MaxInt+1, 10)+";y", countCall(math.MaxInt), api.ErrRange)
	fails(t, "n"+most64+";y", countCall(math.MaxInt), api.ErrRange)
	fails(t, "n"+most64+";y", countCall(-1), api.ErrRange)
	fails(t, "", countCall(-1), api.ErrEnd)
	fails(t, "i1;", countCall(-1), api.ErrForm)
	fails(t, "n1", countCall(-1), api.ErrEnd)
}

// TestPK3Bool: two letters, and no other one.
func TestPK3Bool(t *testing.T) {
	takes(t, "y", boolCall(), "true", 0)
	takes(t, "z", boolCall(), "false", 0)
	takes(t, "yz", boolCall(), "true", 1)
	takes(t, "zy", boolCall(), "false", 1)
	fails(t, "Y", boolCall(), api.ErrForm)
	fails(t, "1", boolCall(), api.ErrForm)
}

// TestPK3TextAndBytes: lengths against the bound and against what is left.
func TestPK3TextAndBytes(t *testing.T) {
	far := strconv.Itoa(math.MaxInt)
	beyond := strconv.FormatUint(math.MaxInt+1, 10)
	for letter, of := range map[string]func(most int) call{"t": textCall, "b": bytesCall} {
		takes(t, letter+"0:", of(0), "", 0)
		takes(t, letter+"0:y", of(5), "", 1)
		takes(t, letter+"2:ab", of(2), "ab", 0)
		takes(t, letter+"2:ab", of(math.MaxInt), "ab", 0)
		takes(t, letter+"2:abc", of(3), "ab", 1)
		takes(t, letter+"11:\x00\xff:;n1;t2:b", of(11), "\x00\xff:;n1;t2:b", 0)
		fails(t, letter+"1:a", of(0), api.ErrLong)
		fails(t, letter+"3:abc", of(2), api.ErrLong)
		fails(t, letter+"3:ab", of(2), api.ErrLong)
		fails(t, letter+"3:ab", of(3), api.ErrEnd)
		fails(t, letter+"1:", of(1), api.ErrEnd)
		fails(t, letter+far+":ab", of(math.MaxInt), api.ErrEnd)
		fails(t, letter+beyond+":ab", of(math.MaxInt), api.ErrLong)
		fails(t, letter+most64+":ab", of(math.MaxInt), api.ErrLong)
		for _, most := range []int{-1, math.MinInt} {
			fails(t, "", of(most), api.ErrArg)
			fails(t, letter+"0:", of(most), api.ErrArg)
			fails(t, letter, of(most), api.ErrArg)
			fails(t, "y", of(most), api.ErrArg)
		}
	}
}

// TestPK4Kind: the six letters, and 0 of all else.
func TestPK4Kind(t *testing.T) {
	for b := range 256 {
		in := []byte{byte(b), '0'}
		want := byte(0)
		if strings.IndexByte("niyztb", byte(b)) >= 0 {
			want = byte(b)
		}
		r := pack.Read(in)
		if k := r.Kind(); k != want || r.Kind() != want || r.Left() != 2 {
			t.Errorf("Kind of %q: %q with %d left", in, k, r.Left())
		}
	}
	if k := pack.Read(nil).Kind(); k != 0 {
		t.Errorf("Kind of nothing: %q", k)
	}
	r := pack.Read([]byte("n1;yb0:"))
	if r.Kind() != 'n' || r.Uint(1) != 1 || r.Kind() != 'y' || !r.Bool() || r.Kind() != 'b' || len(r.Bytes(0)) != 0 || r.Kind() != 0 {
		t.Error("Kind does not go on with what is taken off")
	}
}

// TestPK4Done: nothing left, something left, an error.
func TestPK4Done(t *testing.T) {
	for _, in := range [][]byte{nil, {}} {
		if r := pack.Read(in); r.Done() != nil || r.Left() != 0 {
			t.Error("a reader of nothing is not done")
		}
	}
	r := pack.Read([]byte("yn5;"))
	if r.Left() != 4 || r.Done() != api.ErrForm {
		t.Errorf("at the begin: %d left, %v", r.Left(), r.Done())
	}
	r = pack.Read([]byte("yn5;"))
	if !r.Bool() || r.Left() != 3 || r.Uint(9) != 5 || r.Left() != 0 || r.Done() != nil || r.Done() != nil {
		t.Errorf("at the end: %d left, %v", r.Left(), r.Done())
	}
}

// TestPK4ForGood: behind an error no call answers anything, none takes anything off, and the first error stays.
func TestPK4ForGood(t *testing.T) {
	good := "n1;i1;yt1:ab1:b"
	starts := []struct {
		in   string
		c    call
		want error
	}{
		{good, boolCall(), api.ErrForm},
		{good, textCall(-1), api.ErrArg},
		{good, bytesCall(-1), api.ErrArg},
		{good, uintCall(0), api.ErrRange},
		{good, countCall(0), api.ErrRange},
		{"n99;" + good[3:], countCall(99), api.ErrLong},
		{"", intCall(), api.ErrEnd},
		{"t9:" + good, textCall(8), api.ErrLong},
		{"b99:" + good, bytesCall(99), api.ErrEnd},
	}
	for _, s := range starts {
		later := append(wide(), textCall(-1), bytesCall(-1), countCall(-1), uintCall(0))
		r := pack.Read([]byte(s.in))
		s.c.do(r)
		for range 2 {
			for _, c := range later {
				if got := c.do(r); got != c.zero {
					t.Errorf("%s of %q behind an error: %q", c.name, s.in, got)
				}
				if r.Left() != len(s.in) || r.Kind() != 0 || r.Done() != s.want {
					t.Errorf("%q behind %s: %d left, Kind %d, %v", s.in, c.name, r.Left(), r.Kind(), r.Done())
				}
			}
		}
	}
}

// TestPK4LaterCallsAlone: each call by itself, at its own letter, answers nothing behind an error.
func TestPK4LaterCallsAlone(t *testing.T) {
	for _, in := range []string{"n1;y", "i-3;", "y", "t1:a", "b1:a"} {
		for _, c := range wide() {
			r := pack.Read([]byte(in))
			r.Text(-1)
			if got := c.do(r); got != c.zero || r.Done() != api.ErrArg || r.Left() != len(in) {
				t.Errorf("%s of %q behind an error: %q, %v, %d left", c.name, in, got, r.Done(), r.Left())
			}
		}
	}
}

// TestPK4InTheMiddle: an error leaves what was taken off ahead of it taken off.
func TestPK4InTheMiddle(t *testing.T) {
	r := pack.Read([]byte("n1;t5:abcde"))
	if r.Uint(1) != 1 || r.Text(4) != "" || r.Left() != 8 || r.Done() != api.ErrLong {
		t.Errorf("%d left, %v", r.Left(), r.Done())
	}
	if r.Text(5) != "" || r.Left() != 8 || r.Done() != api.ErrLong {
		t.Errorf("later: %d left, %v", r.Left(), r.Done())
	}
}

// TestPK4NilReader: ErrArg of Done, zero values.
func TestPK4NilReader(t *testing.T) {
	var r *pack.Reader
	for _, c := range append(wide(), textCall(-1), bytesCall(-1), countCall(-1)) {
		if got := c.do(r); got != c.zero {
			t.Errorf("%s of a nil reader: %q", c.name, got)
		}
	}
	if r.Kind() != 0 || r.Left() != 0 || r.Done() != api.ErrArg {
		t.Errorf("a nil reader: %d, %d, %v", r.Kind(), r.Left(), r.Done())
	}
}

// TestRule3ReaderMemory: what is handed in is not kept or changed, and what is answered is new, spare room too.
func TestRule3ReaderMemory(t *testing.T) {
	const whole = "b2:abb2:cdt2:efb0:b2:gh"
	in := []byte(whole)
	r := pack.Read(in)
	first := r.Bytes(2)
	fill(first)
	second := r.Bytes(2)
	if string(in) != whole {
		t.Errorf("the argument changed: %q", in)
	}
	fill(in)
	text := r.Text(2)
	if string(second) != "cd" || text != "ef" {
		t.Errorf("answers share memory: %q, %q", second, text)
	}
	fill(second)
	fill(r.Bytes(2))
	if last := string(r.Bytes(2)); last != "gh" || r.Done() != nil {
		t.Errorf("the reader shares memory: %q, %v", last, r.Done())
	}
}

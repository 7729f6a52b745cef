package conf_test

import (
	"fmt"
	"math"
	"strconv"
	"strings"
	"testing"

	"tollbar/api"
	"tollbar/conf"
)

// on are the bytes of members, of their numbers as digits.
func on(count string, who ...string) string {
	s := "n" + count + ";"
	for _, n := range who {
		s += "n" + n + ";"
	}
	return s
}

// digits are members as bytes.
func digits(c conf.Conf) string {
	var l []string
	for _, who := range c {
		l = append(l, strconv.FormatUint(uint64(who), 10))
	}
	return on(strconv.Itoa(len(c)), l...)
}

// lays looks at the bytes of members.
func lays(t *testing.T, c conf.Conf, want string) {
	t.Helper()
	if got := string(conf.Encode(c)); got != want {
		t.Errorf("Encode of %v: %q, not %q", c, got, want)
	}
}

// reads looks at bytes that must be members', and at that theirs are these.
func reads(t *testing.T, in string, want conf.Conf) {
	t.Helper()
	got, err := conf.Decode([]byte(in))
	isConf(t, "Decode of "+strconv.Quote(in), got, err, want)
	lays(t, want, in)
}

// unread looks at bytes that must be no members'.
func unread(t *testing.T, what, in string) {
	t.Helper()
	got, err := conf.Decode([]byte(in))
	isNone(t, fmt.Sprintf("Decode, %s, of %q", what, in), got, err, api.ErrForm)
}

// TestCO2Bytes: members as bytes and back.
func TestCO2Bytes(t *testing.T) {
	reads(t, "n1;n1;", conf.Conf{1})
	reads(t, "n1;n64;", conf.Conf{64})
	reads(t, "n3;n1;n2;n3;", conf.Conf{1, 2, 3})
	reads(t, "n7;n1;n10;n20;n30;n40;n50;n64;", conf.Conf{1, 10, 20, 30, 40, 50, 64})
	for _, c := range append(confs(), among(8)...) {
		reads(t, digits(c), c)
	}
	for who := 1; who <= mostWho; who++ {
		reads(t, on("1", strconv.Itoa(who)), conf.Conf{who})
	}
}

// TestCO2BytesNoConf: members that may not be have bytes too, which are none of members that may be.
func TestCO2BytesNoConf(t *testing.T) {
	lays(t, nil, "n0;")
	lays(t, conf.Conf{}, "n0;")
	lays(t, conf.Conf{0}, "n1;n0;")
	lays(t, conf.Conf{-1}, "n1;n18446744073709551615;")
	lays(t, conf.Conf{-2, 3}, "n2;n18446744073709551614;n3;")
	lays(t, conf.Conf{math.MinInt}, "n1;n9223372036854775808;")
	lays(t, conf.Conf{math.MinInt, -1, 0, 65, math.MaxInt}, "n5;n9223372036854775808;n18446744073709551615;n0;n65;n9223372036854775807;")
	lays(t, conf.Conf{3, 2, 2}, "n3;n3;n2;n2;")
	lays(t, conf.Conf{1, 2, 3, 4, 5, 6, 7, 8}, "n8;n1;n2;n3;n4;n5;n6;n7;n8;")
	for why, c := range noConfs() {
		lays(t, c, digits(c))
		unread(t, why, digits(c))
	}
}

// TestCO2BytesAll: the bytes of all short lists of numbers about the bounds are taken where these may be, and only there.
func TestCO2BytesAll(t *testing.T) {
	for _, c := range lists(4, math.MinInt, -1, 0, 1, 2, 3, 63, 64, 65, math.MaxInt) {
		if stands(c) {
			reads(t, digits(c), c)
		} else {
			unread(t, "of what may not be", digits(c))
		}
	}
}

// TestCO2BytesCount: a count that is another one.
func TestCO2BytesCount(t *testing.T) {
	for _, c := range confs() {
		rest := strings.TrimPrefix(digits(c), on(strconv.Itoa(len(c))))
		for n := range 12 {
			if n != len(c) {
				unread(t, "with another count", on(strconv.Itoa(n))+rest)
			}
		}
		for _, s := range []string{"", "-1", "-0", "00", "01", "+1", " 1", "1 ", "64", "256", "257", "4294967297", "9223372036854775807", "9223372036854775808", "18446744073709551615", "18446744073709551616", "18446744073709551617", "99999999999999999999", "000000000000000000001"} {
			unread(t, "with such a count", on(s)+rest)
		}
		// The first member's number may be the count of those behind it.
		if c[0] != len(c)-1 {
			unread(t, "without a count", rest)
		}
		unread(t, "with a needless nought in the count", on("0"+strconv.Itoa(len(c)))+rest)
	}
}

// TestCO2BytesNumbers: a number that no member may have, or that is told otherwise, at each place.
func TestCO2BytesNumbers(t *testing.T) {
	for _, s := range []string{"", "0", "65", "66", "128", "256", "258", "65538", "4294967298", "9223372036854775807", "9223372036854775808", "18446744073709551615", "18446744073709551616", "18446744073709551618", "99999999999999999999", "-1", "-2", "-0", "02", "002", "+2", " 2", "2 ", "a", "2a"} {
		unread(t, "with such a number", on("1", s))
		unread(t, "with such a number at first", on("3", s, "2", "3"))
		unread(t, "with such a number in the midst", on("3", "1", s, "3"))
		unread(t, "with such a number at last", on("3", "1", "2", s))
	}
}

// TestCO2BytesCut: no begin of members' bytes is members', nor are they with more behind or ahead.
func TestCO2BytesCut(t *testing.T) {
	for _, c := range confs() {
		s := digits(c)
		for i := range len(s) {
			unread(t, "cut short", s[:i])
		}
		for _, more := range []string{"\x00", " ", ";", "0", "n", "n0;", "n1;", "n64;", "n65;", "y", "z", "t0:", "b0:", "i0;", s} {
			unread(t, "with more behind", s+more)
			unread(t, "with more ahead", more+s)
		}
	}
	for _, c := range []conf.Conf{{1}, {1, 33, 64}, {9, 20}, {11, 12, 13, 14, 15, 16, 17}} {
		s := digits(c)
		for i := range len(s) {
			unread(t, "without its begin", s[i+1:])
		}
	}
	for _, b := range [][]byte{nil, {}} {
		got, err := conf.Decode(b)
		isNone(t, "Decode of nothing", got, err, api.ErrForm)
	}
}

// TestCO2BytesLetters: another letter in the place of each, and another sign in the place of each one's end.
func TestCO2BytesLetters(t *testing.T) {
	s := "n3;n1;n22;n64;"
	reads(t, s, conf.Conf{1, 22, 64})
	for i := range len(s) {
		for _, c := range []byte("inbtyzN:, ") {
			if s[i] == 'n' && c != 'n' || s[i] == ';' {
				unread(t, "with another sign", s[:i]+string(c)+s[i+1:])
			}
		}
	}
}

// TestCO2BytesChanged: whatever is read of bytes of which one is another has these bytes, and may be.
func TestCO2BytesChanged(t *testing.T) {
	s := "n3;n12;n33;n57;"
	taken := 0
	for i := range len(s) {
		for b := range 256 {
			in := s[:i] + string([]byte{byte(b)}) + s[i+1:]
			c, err := conf.Decode([]byte(in))
			if err != nil {
				if in == s || err != api.ErrForm || len(c) != 0 {
					t.Errorf("Decode of %q: %v, %v", in, c, err)
				}
				continue
			}
			taken++
			lays(t, c, in)
			if conf.Check(c) != nil {
				t.Errorf("Decode of %q: %v", in, c)
			}
		}
	}
	// 12 to 32 and 10 to 19, 13 to 53 and 30 to 39, 37 to 57 and 50 to 59; each of the others as it is alone.
	if want := 3 + 10 + 5 + 10 + 3 + 10 + len(s) - 6; taken != want {
		t.Errorf("%d taken, not %d, of %q", taken, want, s)
	}
}

package pair_test

import (
	"math/rand"
	"regexp"
	"strconv"
	"strings"
	"testing"

	"tollbar/api"
	"tollbar/pair"
)

// onText are two numbers as text, whatever package pair says of them.
func onText(a, b int) string { return strconv.Itoa(a) + "/" + strconv.Itoa(b) }

// unread looks at a text that must be none's.
func unread(t *testing.T, s string) {
	t.Helper()
	got, err := pair.Read(s)
	fails(t, strconv.Quote(s), got, err, api.ErrForm)
}

// TestPA3Show: both parts as digits; no amount shows nothing.
func TestPA3Show(t *testing.T) {
	for _, a := range goodParts() {
		for _, b := range goodParts() {
			if s := pair.Show(c(a, b)); s != onText(a, b) {
				t.Errorf("Show of %d/%d: %q", a, b, s)
			}
		}
	}
	for _, x := range nones() {
		if s := pair.Show(x); s != "" {
			t.Errorf("Show of %v: %q", x, s)
		}
	}
}

// TestPA3Read: each amount is made of its text again, and its text of it.
func TestPA3Read(t *testing.T) {
	draw := rand.New(rand.NewSource(1))
	l := goods()
	for range 2000 {
		l = append(l, draws(draw, 1, 1<<(1+draw.Intn(40)))...)
	}
	for _, x := range l {
		got, err := pair.Read(pair.Show(x))
		is(t, "Read of Show", got, err, x)
	}
	got, err := pair.Read("1099511627776/0")
	is(t, "Read of the most", got, err, c(api.MaxAmount, 0))
	got, err = pair.Read("0/1099511627776")
	is(t, "Read of the most", got, err, c(0, api.MaxAmount))
}

// TestPA3ReadParts: what is no number as Show tells it, in either part and in both.
func TestPA3ReadParts(t *testing.T) {
	parts := []string{
		"", "00", "01", "010", "001099511627776", "+1", "+0", "-1", "-0", "--1", "+-1", "- 1", " 1", "1 ", "1 0", "\t1", "1\n", "1\r\n",
		"1\x00", "\x001", "1_0", "_1", "0x1", "0b1", "0o1", "1e3", "1E3", "1.", "1.0", ".5", "1,0", "1;", "n1;", "1i", "a", "NaN", "Inf", "inf",
		"\u0661", "\uff11", "\xff", "1\u00a0",
		"1099511627777", "1099511627778", "2199023255552", "9007199254740993", "9223372036854775807", "9223372036854775808",
		"18446744073709551615", "18446744073709551616", "18446744073709551617", "99999999999999999999", "-9223372036854775808",
		strings.Repeat("0", 5000), strings.Repeat("9", 5000), "1" + strings.Repeat("0", 5000), strings.Repeat("0", 5000) + "1",
	}
	for _, p := range parts {
		for _, other := range []string{"0", "1", "1099511627776", p} {
			unread(t, p+"/"+other)
			unread(t, other+"/"+p)
		}
	}
}

// TestPA3ReadSlashes: one of them between, and nothing about it.
func TestPA3ReadSlashes(t *testing.T) {
	texts := []string{
		"", "/", "//", "1", "11", "1 1", "1/", "/1", "1//1", "/1/1", "1/1/", "1/1/1", "1/1/1/1", "1 /1", "1/ 1", " 1/1", "1/1 ", "1/1\n", "\n1/1",
		"1\\1", "1|1", "1:1", "1,1", "1.1", "1-1", "1\u22151", "1\u20441", "1+1i", "(1+1i)", "(1/1)", "\"1/1\"", "\ufeff1/1", "n1;n1;",
		strings.Repeat("/", 5000), strings.Repeat("1/", 5000) + "1",
	}
	for _, s := range texts {
		unread(t, s)
	}
}

// well is what short texts of an amount look like.
var well = regexp.MustCompile(`^(0|[1-9][0-9]*)/(0|[1-9][0-9]*)$`)

// TestPA3ReadAllShort: of all short texts of some signs those that have the form are an amount's, and it shows as they are.
func TestPA3ReadAllShort(t *testing.T) {
	const signs = "019/-+ _.xe"
	found := 0
	var look func(s string)
	look = func(s string) {
		x, err := pair.Read(s)
		if well.MatchString(s) {
			found++
			if err != nil || pair.Show(x) != s {
				t.Fatalf("%q: %v, %v", s, x, err)
			}
		} else {
			fails(t, strconv.Quote(s), x, err, api.ErrForm)
		}
		if len(s) == 5 {
			return
		}
		for i := range len(signs) {
			look(s + signs[i:i+1])
		}
	}
	look("")
	if found == 0 {
		t.Error("none had the form")
	}
}

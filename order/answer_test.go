package order_test

import (
	"math"
	"slices"
	"strconv"
	"testing"

	"tollbar/api"
	"tollbar/order"
)

// onAnswer are an answer's bytes, of its numbers as digits.
func onAnswer(err string, numbers [4]string) string {
	s := "i" + err + ";"
	for _, n := range numbers {
		s += "n" + n + ";"
	}
	return s
}

// reads looks at bytes that must be an answer's, and at that its bytes are these.
func reads(t *testing.T, in string, want order.Answer) {
	t.Helper()
	got, err := order.DecodeAnswer([]byte(in))
	if err != nil || !sameAnswer(got, want) {
		t.Errorf("DecodeAnswer of %q: %v, %v, not %v", in, got, err, want)
	}
	if s := string(order.EncodeAnswer(want)); s != in {
		t.Errorf("EncodeAnswer of %v: %q, not %q", want, s, in)
	}
}

// unread looks at bytes that must be no answer's.
func unread(t *testing.T, what, in string) {
	t.Helper()
	got, err := order.DecodeAnswer([]byte(in))
	if err != api.ErrForm || !sameAnswer(got, order.Answer{}) {
		t.Errorf("DecodeAnswer, %s: %v, %v, of %q", what, got, err, in)
	}
}

// errnos are the numbers of all errors.
func errnos() []api.Errno {
	return []api.Errno{
		api.ErrArg, api.ErrLong, api.ErrForm, api.ErrRange, api.ErrOver, api.ErrName, api.ErrNone, api.ErrTwice, api.ErrFull, api.ErrSum, api.ErrEnd, api.ErrDown,
		api.ErrHalt, api.ErrQuota, api.ErrUsed, api.ErrOld, api.ErrGap, api.ErrGone, api.ErrLead, api.ErrWait, api.ErrBusy, api.ErrParty, api.ErrScript,
	}
}

// TestOR2Answer: what stands in the bytes, with the numbers of all errors, and with those that are none.
func TestOR2Answer(t *testing.T) {
	reads(t, "i0;n0;n0;n5;n5;", order.Answer{Total: 5 + 5i})
	reads(t, "i20;n0;n0;n0;n0;", refused(api.ErrQuota))
	numbers := []int{0, 7, 15, 34, 292, -1, -20, math.MinInt, math.MaxInt, 1 << 32, -1 << 32}
	for _, e := range errnos() {
		numbers = append(numbers, int(e))
	}
	for _, n := range numbers {
		reads(t, onAnswer(strconv.Itoa(n), [4]string{"1", "2", "3", "4"}), order.Answer{Err: n, Used: 1 + 2i, Total: 3 + 4i})
		reads(t, onAnswer(strconv.Itoa(n), [4]string{"0", "0", "0", "0"}), order.Answer{Err: n})
	}
	for _, n := range []string{"", "-", "-0", "01", "+1", " 1", "9223372036854775808", "-9223372036854775809", "a"} {
		unread(t, "of an error that is no number", onAnswer(n, [4]string{"1", "2", "3", "4"}))
	}
	for _, letter := range []string{"n", "t", "b", "y", "z", ""} {
		unread(t, "of another letter", letter+"1;n1;n2;n3;n4;")
	}
}

// TestOR2AnswerAmounts: amounts of both edges, and what is none, in each place.
func TestOR2AnswerAmounts(t *testing.T) {
	for _, x := range [][2]int{{0, 0}, {0, most}, {most, 0}, {most, most}, {most - 1, 1}} {
		first, second := strconv.Itoa(x[0]), strconv.Itoa(x[1])
		reads(t, onAnswer("0", [4]string{first, second, "3", "4"}), order.Answer{Used: c(x[0], x[1]), Total: 3 + 4i})
		reads(t, onAnswer("0", [4]string{"1", "2", first, second}), order.Answer{Used: 1 + 2i, Total: c(x[0], x[1])})
	}
	for place := range 4 {
		for _, n := range badNumbers() {
			numbers := [4]string{"1", "2", "3", "4"}
			numbers[place] = n
			unread(t, "with a number that is none", onAnswer("0", numbers))
		}
	}
	for _, bad := range nones() {
		lays := func(a order.Answer, want string) {
			if got := string(order.EncodeAnswer(a)); got != want {
				t.Errorf("EncodeAnswer of %v: %q, not %q", a, got, want)
			}
			unread(t, "without an amount", want)
		}
		lays(order.Answer{Err: 5, Used: bad, Total: 3 + 4i}, "i5;n3;n4;")
		lays(order.Answer{Err: 5, Used: 1 + 2i, Total: bad}, "i5;n1;n2;")
		lays(order.Answer{Err: 5, Used: bad, Total: bad}, "i5;")
	}
}

// TestOR2AnswerCut: no begin of an answer's bytes is one, nor are they with more behind or ahead.
func TestOR2AnswerCut(t *testing.T) {
	for _, a := range []order.Answer{{}, refused(api.ErrScript), {Err: -12, Used: c(most, 10), Total: c(0, 123)}} {
		s := string(order.EncodeAnswer(a))
		reads(t, s, a)
		for i := range len(s) {
			unread(t, "cut short", s[:i])
			unread(t, "without its begin", s[i+1:])
		}
		for _, more := range []string{"\x00", " ", ";", "0", "n", "n0;", "n0;n0;", "y", "t0:", "i0;", s} {
			unread(t, "with more behind", s+more)
			unread(t, "with more ahead", more+s)
		}
	}
	if got, err := order.DecodeAnswer(nil); err != api.ErrForm || !sameAnswer(got, order.Answer{}) {
		t.Errorf("DecodeAnswer of nil: %v, %v", got, err)
	}
	unread(t, "of an order", string(order.Encode(plainOrder(1))))
	spoils(t, "of an answer", "i0;n0;n0;n5;n5;")
}

// TestOR2AnswerChanged: each byte changed into any other one makes no bytes of an answer, or those of another one.
func TestOR2AnswerChanged(t *testing.T) {
	is := order.Answer{Err: 20, Used: 13 + 4i, Total: 50 + 60i}
	s := order.EncodeAnswer(is)
	for i := range s {
		for other := range 256 {
			b := slices.Clone(s)
			b[i] = byte(other)
			a, err := order.DecodeAnswer(b)
			if err != nil {
				unread(t, "changed", string(b))
				continue
			}
			reads(t, string(b), a)
			if other != int(s[i]) && sameAnswer(a, is) {
				t.Errorf("%q and %q are the same answer", s, b)
			}
		}
	}
}

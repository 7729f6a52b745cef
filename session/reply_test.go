package session_test

import (
	"math"
	"slices"
	"strconv"
	"strings"
	"testing"

	"tollbar/api"
	"tollbar/order"
	"tollbar/session"
)

// onReply are a reply's bytes, of its numbers as digits.
func onReply(err, number, answer string) string {
	return "i" + err + ";i" + number + ";" + bytes(answer)
}

// replyIs looks at bytes that must be a reply's, and at that its bytes are these.
func replyIs(t *testing.T, in string, want session.Reply) {
	t.Helper()
	got, err := session.DecodeReply([]byte(in))
	if err != nil || !sameReply(got, want) {
		t.Errorf("DecodeReply of %q: %v, %v, not %v", in, got, err, want)
	}
	if s := string(session.EncodeReply(want)); s != in {
		t.Errorf("EncodeReply of %v: %q, not %q", want, s, in)
	}
}

// noReply looks at bytes that must be no reply's.
func noReply(t *testing.T, what, in string) {
	t.Helper()
	got, err := session.DecodeReply([]byte(in))
	if errno(err) != api.ErrForm || !sameReply(got, session.Reply{}) {
		t.Errorf("DecodeReply, %s: %v, %v, of %.300q", what, got, err, in)
	}
}

// TestSE3Reply: what stands in a reply's bytes, one behind the other.
func TestSE3Reply(t *testing.T) {
	answer := "i8;n1;n2;n3;n4;"
	is := order.Answer{Err: 8, Used: 1 + 2i, Total: 3 + 4i}
	replyIs(t, zero, session.Reply{})
	replyIs(t, "i24;i0;b15:i0;n0;n0;n0;n0;", refused(api.ErrGone))
	replyIs(t, "i0;i5;b16:i20;n0;n0;n0;n0;", denied(5, api.ErrQuota))
	replyIs(t, "i7;i-6;b15:"+answer, session.Reply{Err: 7, Session: -6, Answer: is})
	for _, n := range ints() {
		s := strconv.Itoa(n)
		replyIs(t, onReply(s, "12", answer), session.Reply{Err: n, Session: 12, Answer: is})
		replyIs(t, onReply("11", s, answer), session.Reply{Err: 11, Session: n, Answer: is})
		replyIs(t, onReply("11", "12", "i"+s+answer[2:]), session.Reply{Err: 11, Session: 12, Answer: order.Answer{Err: n, Used: 1 + 2i, Total: 3 + 4i}})
	}
	whole := c(most, most)
	longest := session.Reply{Err: math.MinInt, Session: math.MinInt, Answer: order.Answer{Err: math.MinInt, Used: whole, Total: whole}}
	replyIs(t, string(session.EncodeReply(longest)), longest)
}

// TestSE3ReplyNumbers: what is no number, in each place.
func TestSE3ReplyNumbers(t *testing.T) {
	answer := "i8;n1;n2;n3;n4;"
	for _, n := range badInts() {
		noReply(t, "of an error that is no number", onReply(n, "1", answer))
		noReply(t, "of a session that is no number", onReply("1", n, answer))
		noReply(t, "of an answer's error that is no number", onReply("1", "1", "i"+n+answer[2:]))
	}
	for _, letter := range []string{"n", "t", "b", "y", "z", "", "I"} {
		noReply(t, "of another letter", letter+"1;i2;"+bytes(answer))
		noReply(t, "of another letter", "i1;"+letter+"2;"+bytes(answer))
	}
	for _, letter := range []string{"n", "t", "i", "y", "z", "", "B"} {
		noReply(t, "of another letter", "i1;i2;"+letter+bytes(answer)[1:])
	}
}

// TestSE3ReplyAnswer: an answer's bytes as order has them, and no other ones, of whatever length; of what is no amount nothing is laid.
func TestSE3ReplyAnswer(t *testing.T) {
	answer := "i8;n1;n2;n3;n4;"
	for _, x := range [][2]int{{0, 0}, {most, 0}, {0, most}, {most, most}} {
		laid := "n" + strconv.Itoa(x[0]) + ";n" + strconv.Itoa(x[1]) + ";"
		replyIs(t, onReply("0", "1", "i0;"+laid+"n3;n4;"), session.Reply{Session: 1, Answer: order.Answer{Used: c(x[0], x[1]), Total: 3 + 4i}})
		replyIs(t, onReply("0", "1", "i0;n1;n2;"+laid), session.Reply{Session: 1, Answer: order.Answer{Used: 1 + 2i, Total: c(x[0], x[1])}})
	}
	for _, amount := range nones() {
		for _, r := range []session.Reply{{Session: 1, Answer: order.Answer{Used: amount, Total: 1 + 2i}}, {Session: 1, Answer: order.Answer{Used: 1 + 2i, Total: amount}}} {
			in := "i0;i1;b9:i0;n1;n2;"
			if got := string(session.EncodeReply(r)); got != in {
				t.Errorf("EncodeReply of %v: %q", r, got)
			}
			noReply(t, "without an amount", in)
		}
	}
	bad := []string{"", "i1;", answer[:len(answer)-1], answer + "n0;", answer + " ", " " + answer, answer + answer, bytes(answer), "n" + answer[1:], "i8;n1;n2;n3;n1099511627777;", "i8;n1099511627777;n2;n3;n4;"}
	for _, length := range []int{127, 128, 129, 1000, api.MaxBytes} {
		bad = append(bad, answer+strings.Repeat("0", length-len(answer)), strings.Repeat("n", length))
	}
	for _, a := range bad {
		noReply(t, "with an answer that is none", onReply("0", "1", a))
	}
	noReply(t, "with a text for an answer", "i0;i1;"+text(answer))
	noReply(t, "with an answer without its length", "i0;i1;"+answer)
	for _, head := range []string{"b015:", "b14:", "b16:", "b:", "b15;", "b-15:", "b129:", "b18446744073709551615:"} {
		noReply(t, "with an answer of another length", "i0;i1;"+head+answer)
	}
}

// TestSE3ReplyCut: no begin of a reply's bytes is one, nor are they with more behind or ahead.
func TestSE3ReplyCut(t *testing.T) {
	for _, r := range []session.Reply{{}, refused(api.ErrScript), denied(api.MaxIndex, api.ErrUsed), told(7, c(most, 10), c(0, 123)), {Err: math.MinInt, Session: math.MaxInt, Answer: order.Answer{Err: -12}}} {
		s := string(session.EncodeReply(r))
		replyIs(t, s, r)
		for i := range len(s) {
			noReply(t, "cut short", s[:i])
			noReply(t, "without its begin", s[i+1:])
		}
		for _, more := range []string{"\x00", " ", ";", "0", "n", "n0;", "y", "t0:", "b0:", "i0;", s} {
			noReply(t, "with more behind", s+more)
			noReply(t, "with more ahead", more+s)
		}
	}
	if got, err := session.DecodeReply(nil); errno(err) != api.ErrForm || !sameReply(got, session.Reply{}) {
		t.Errorf("DecodeReply of nil: %v, %v", got, err)
	}
	noReply(t, "of a command", onCommand("3", "1", "2", plain))
	noReply(t, "of an answer", "i0;n0;n0;n0;n0;")
}

// TestSE3ReplyChanged: each byte changed into any other one makes no bytes of a reply, or those of another one.
func TestSE3ReplyChanged(t *testing.T) {
	is := session.Reply{Err: 20, Session: 34, Answer: order.Answer{Err: 56, Used: 13 + 4i, Total: 50 + 60i}}
	s := session.EncodeReply(is)
	for i := range s {
		for other := range 256 {
			b := slices.Clone(s)
			b[i] = byte(other)
			r, err := session.DecodeReply(b)
			if err != nil {
				noReply(t, "changed", string(b))
				continue
			}
			replyIs(t, string(b), r)
			if other != int(s[i]) && sameReply(r, is) {
				t.Errorf("%q and %q are the same reply", s, b)
			}
		}
	}
}

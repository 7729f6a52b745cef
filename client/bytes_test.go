package client_test

import (
	"math"
	"strconv"
	"strings"
	"testing"

	"tollbar/api"
	"tollbar/client"
	"tollbar/order"
	"tollbar/quota"
	"tollbar/session"
)

// bytes are bytes as bytes, whatever package pack says of them.
func bytes(s string) string { return "b" + strconv.Itoa(len(s)) + ":" + s }

// Bytes of an order, of a command and of a reply, and what they tell.
const (
	onOrder   = "i1;t2:abt2:cdn1;n2;n3;n4;n5;n6;t2:eft2:ghn7;n8;"
	onCommand = "i3;i5;i6;b47:" + onOrder
	onReply   = "i9;i8;b15:i7;n1;n2;n3;n4;"
)

func command() session.Command { return asking(5, 6, full(order.Admit)) }

func reply() session.Reply {
	return session.Reply{Err: 9, Session: 8, Answer: order.Answer{Err: 7, Used: 1 + 2i, Total: 3 + 4i}}
}

// onRequest are a request's bytes, of its numbers as digits; onAnswer are an answer's.
func onRequest(who, number, reads, command string) string {
	return "i" + who + ";i" + number + ";" + reads + bytes(command)
}

func onAnswer(who, number, err, leader, reply string) string {
	return "i" + who + ";i" + number + ";i" + err + ";i" + leader + ";" + bytes(reply)
}

// requestIs looks at bytes that must be a request's, and at that its bytes are these.
func requestIs(t *testing.T, in string, want client.Request) {
	t.Helper()
	got, err := client.Decode([]byte(in))
	if err != nil || shownRequest(got) != shownRequest(want) {
		t.Errorf("Decode of %q: %s, %v, not %s", in, shownRequest(got), err, shownRequest(want))
	}
	if s := string(client.Encode(want)); s != in {
		t.Errorf("Encode of %s: %q, not %q", shownRequest(want), s, in)
	}
}

// noRequest looks at bytes that must be no request's.
func noRequest(t *testing.T, what, in string) {
	t.Helper()
	got, err := client.Decode([]byte(in))
	if err != api.ErrForm || shownRequest(got) != shownRequest(client.Request{}) {
		t.Errorf("Decode, %s: %s, %v, of %.300q", what, shownRequest(got), err, in)
	}
}

// answerIs and noAnswer are the same of an answer.
func answerIs(t *testing.T, in string, want client.Answer) {
	t.Helper()
	got, err := client.DecodeAnswer([]byte(in))
	if err != nil || shownAnswer(got) != shownAnswer(want) {
		t.Errorf("DecodeAnswer of %q: %s, %v, not %s", in, shownAnswer(got), err, shownAnswer(want))
	}
	if s := string(client.EncodeAnswer(want)); s != in {
		t.Errorf("EncodeAnswer of %s: %q, not %q", shownAnswer(want), s, in)
	}
}

func noAnswer(t *testing.T, what, in string) {
	t.Helper()
	got, err := client.DecodeAnswer([]byte(in))
	if err != api.ErrForm || shownAnswer(got) != shownAnswer(client.Answer{}) {
		t.Errorf("DecodeAnswer, %s: %s, %v, of %.300q", what, shownAnswer(got), err, in)
	}
}

// ints are numbers about the bounds of some; noInts are digits that are no int.
func ints() []int {
	return []int{0, 1, 2, 9, 10, 64, 65, -1, -2, -10, api.MaxIndex, api.MaxIndex + 1, -api.MaxIndex, 1 << 32, -1 << 32, math.MaxInt, math.MaxInt - 1, math.MinInt, math.MinInt + 1}
}

func noInts() []string {
	return []string{"", "-", "-0", "00", "01", "-01", "+1", " 1", "1.0", "a", "9223372036854775808", "-9223372036854775809", "18446744073709551615", "18446744073709551617", "000000000000000000001"}
}

// letters are those that stand ahead of things, one that does not, and none.
func letters() []string { return []string{"n", "i", "t", "b", "y", "z", "", "I"} }

// TestCL3Request: what stands in a request's bytes, one behind the other.
func TestCL3Request(t *testing.T) {
	requestIs(t, "i0;i0;zb52:i0;i0;i0;b39:i0;t0:t0:n0;n0;n0;n0;n0;n0;t0:t0:n0;n0;", client.Request{})
	requestIs(t, "i3;i1;zb52:i1;i0;i0;b39:i0;t0:t0:n0;n0;n0;n0;n0;n0;t0:t0:n0;n0;", client.Request{Client: 3, Number: 1, Command: opening()})
	requestIs(t, "i1;i2;yb60:"+onCommand, client.Request{Client: 1, Number: 2, Reads: true, Command: command()})
	requestIs(t, "i-1;i-2;zb60:"+onCommand, client.Request{Client: -1, Number: -2, Command: command()})
	for _, n := range ints() {
		s := strconv.Itoa(n)
		requestIs(t, onRequest(s, "12", "y", onCommand), client.Request{Client: n, Number: 12, Reads: true, Command: command()})
		requestIs(t, onRequest("11", s, "z", onCommand), client.Request{Client: 11, Number: n, Command: command()})
		for place := range 4 {
			do := command()
			*[4]*int{&do.Kind, &do.Session, &do.Seq, &do.Order.Kind}[place] = n
			old := [4]string{"i3;", "i5;", "i6;", "i1;"}[place]
			order := strings.Replace(onOrder, "i1;", "i"+s+";", place/3)
			in := strings.Replace("i3;i5;i6;", old, "i"+s+";", 1) + bytes(order)
			requestIs(t, onRequest("11", "12", "z", in), client.Request{Client: 11, Number: 12, Command: do})
		}
	}
}

// TestCL3Answer: the same of an answer's.
func TestCL3Answer(t *testing.T) {
	answerIs(t, "i0;i0;i0;i0;b25:i0;i0;b15:i0;n0;n0;n0;n0;", client.Answer{})
	answerIs(t, "i3;i1;i0;i2;b25:i0;i5;b15:i0;n0;n0;n0;n0;", client.Answer{Client: 3, Number: 1, Leader: 2, Reply: session.Reply{Session: 5}})
	answerIs(t, "i1;i2;i3;i4;b25:"+onReply, client.Answer{Client: 1, Number: 2, Err: 3, Leader: 4, Reply: reply()})
	answerIs(t, "i-1;i-2;i-3;i-4;b25:"+onReply, client.Answer{Client: -1, Number: -2, Err: -3, Leader: -4, Reply: reply()})
	for _, n := range ints() {
		s := strconv.Itoa(n)
		answerIs(t, onAnswer(s, "12", "13", "14", onReply), client.Answer{Client: n, Number: 12, Err: 13, Leader: 14, Reply: reply()})
		answerIs(t, onAnswer("11", s, "13", "14", onReply), client.Answer{Client: 11, Number: n, Err: 13, Leader: 14, Reply: reply()})
		answerIs(t, onAnswer("11", "12", s, "14", onReply), client.Answer{Client: 11, Number: 12, Err: n, Leader: 14, Reply: reply()})
		answerIs(t, onAnswer("11", "12", "13", s, onReply), client.Answer{Client: 11, Number: 12, Err: 13, Leader: n, Reply: reply()})
		is := reply()
		is.Err = n
		answerIs(t, onAnswer("1", "2", "3", "4", "i"+s+onReply[2:]), client.Answer{Client: 1, Number: 2, Err: 3, Leader: 4, Reply: is})
		is = reply()
		is.Session = n
		answerIs(t, onAnswer("1", "2", "3", "4", strings.Replace(onReply, "i8;", "i"+s+";", 1)), client.Answer{Client: 1, Number: 2, Err: 3, Leader: 4, Reply: is})
	}
}

// TestCL3Longest: as long as may be.
func TestCL3Longest(t *testing.T) {
	long, whole := strings.Repeat("n", api.MaxLabel), complex(api.MaxAmount, api.MaxAmount)
	o := order.Order{Kind: math.MinInt, Node: quota.Node{Name: long, Parent: long, Own: whole, Borrow: whole, Lend: whole}, Use: quota.Use{ID: long, Node: long, Amount: whole}}
	r := client.Request{Client: math.MinInt, Number: math.MinInt, Reads: true, Command: session.Command{Kind: math.MinInt, Session: math.MinInt, Seq: math.MinInt, Order: o}}
	requestIs(t, string(client.Encode(r)), r)
	// A name of one byte more is laid, but is no order's any more.
	for place := range 4 {
		bad := r
		n, u := &bad.Command.Order.Node, &bad.Command.Order.Use
		*[4]*string{&n.Name, &n.Parent, &u.ID, &u.Node}[place] += "n"
		in := string(client.Encode(bad))
		if want := onRequest(strconv.Itoa(math.MinInt), strconv.Itoa(math.MinInt), "y", string(session.EncodeCommand(bad.Command))); in != want {
			t.Errorf("Encode: %q, not %q", in, want)
		}
		noRequest(t, "with a long name", in)
	}
	a := client.Answer{Client: math.MinInt, Number: math.MinInt, Err: math.MinInt, Leader: math.MinInt, Reply: session.Reply{Err: math.MinInt, Session: math.MinInt, Answer: order.Answer{Err: math.MinInt, Used: whole, Total: whole}}}
	answerIs(t, string(client.EncodeAnswer(a)), a)
}

// TestCL3NoAmount: of what is no amount nothing is laid, and what is laid so is nothing.
func TestCL3NoAmount(t *testing.T) {
	for _, x := range []complex128{-1, 0.5, complex(0, math.Inf(1)), complex(math.NaN(), 0), api.MaxAmount + 1, complex(math.Copysign(0, -1), 0)} {
		do := command()
		do.Order.Use.Amount = x
		in := onRequest("1", "2", "z", "i3;i5;i6;"+bytes(strings.Replace(onOrder, "n7;n8;", "", 1)))
		if got := string(client.Encode(client.Request{Client: 1, Number: 2, Command: do})); got != in {
			t.Errorf("Encode: %q, not %q", got, in)
		}
		noRequest(t, "without an amount", in)
		is := reply()
		is.Answer.Total = x
		in = onAnswer("1", "2", "3", "4", "i9;i8;"+bytes("i7;n1;n2;"))
		if got := string(client.EncodeAnswer(client.Answer{Client: 1, Number: 2, Err: 3, Leader: 4, Reply: is})); got != in {
			t.Errorf("EncodeAnswer: %q, not %q", got, in)
		}
		noAnswer(t, "without an amount", in)
	}
}

// TestCL3Numbers: what is no number, and no truth, in each place.
func TestCL3Numbers(t *testing.T) {
	for _, n := range noInts() {
		noRequest(t, "of a client that is no number", onRequest(n, "1", "z", onCommand))
		noRequest(t, "of a number that is none", onRequest("1", n, "z", onCommand))
		noRequest(t, "of a command that is none", onRequest("1", "1", "z", "i"+n+onCommand[2:]))
		for place := range 4 {
			l := [4]string{"1", "2", "3", "4"}
			l[place] = n
			noAnswer(t, "of a number that is none", onAnswer(l[0], l[1], l[2], l[3], onReply))
		}
		noAnswer(t, "of a reply that is none", onAnswer("1", "2", "3", "4", "i"+n+onReply[2:]))
	}
	for _, letter := range letters() {
		if letter != "i" {
			noRequest(t, "of another letter", letter+"1;i2;z"+bytes(onCommand))
			noRequest(t, "of another letter", "i1;"+letter+"2;z"+bytes(onCommand))
			for place := range 4 {
				l := [4]string{"i", "i", "i", "i"}
				l[place] = letter
				noAnswer(t, "of another letter", l[0]+"1;"+l[1]+"2;"+l[2]+"3;"+l[3]+"4;"+bytes(onReply))
			}
		}
		if letter != "y" && letter != "z" {
			noRequest(t, "of another truth", "i1;i2;"+letter+bytes(onCommand))
		}
		if letter != "b" {
			noRequest(t, "of no bytes", "i1;i2;z"+letter+bytes(onCommand)[1:])
			noAnswer(t, "of no bytes", "i1;i2;i3;i4;"+letter+bytes(onReply)[1:])
		}
	}
	noRequest(t, "of two truths", "i1;i2;yz"+bytes(onCommand))
}

// TestCL3Lengths: bytes of up to their bound and beyond, none of which is a command, or a reply.
func TestCL3Lengths(t *testing.T) {
	for _, length := range []int{0, 1, 255, 256, 257, 511, 512, 513, 1023, 1024, 1025, 2048, api.MaxBytes} {
		for _, b := range []string{strings.Repeat("n", length), onCommand + strings.Repeat(" ", max(0, length-len(onCommand))) + " ", "i1;i2;i3;" + bytes(strings.Repeat("0", length))} {
			noRequest(t, "of a length", onRequest("1", "2", "z", b))
		}
		for _, b := range []string{strings.Repeat("n", length), onReply + strings.Repeat(" ", max(0, length-len(onReply))) + " ", "i1;i2;" + bytes(strings.Repeat("0", length))} {
			noAnswer(t, "of a length", onAnswer("1", "2", "3", "4", b))
		}
	}
	// As many bytes as may be, and one more, of a command but for a name that is too long.
	for _, length := range []int{1023, 1024, 1025} {
		do := command()
		for len(session.EncodeCommand(do)) < length {
			do.Order.Node.Name += "n"
		}
		in := string(client.Encode(client.Request{Client: 1, Number: 2, Command: do}))
		if want := onRequest("1", "2", "z", string(session.EncodeCommand(do))); in != want {
			t.Errorf("Encode: %.300q, not %.300q", in, want)
		}
		noRequest(t, "of a long name", in)
	}
	for _, head := range []string{"b060:", "b59:", "b61:", "b:", "b60;", "b-60:", "b1025:", "b18446744073709551615:", "b18446744073709551616:"} {
		noRequest(t, "of another length", "i1;i2;z"+head+onCommand)
	}
	for _, head := range []string{"b025:", "b24:", "b26:", "b:", "b25;", "b-25:", "b257:", "b18446744073709551615:", "b18446744073709551616:"} {
		noAnswer(t, "of another length", "i1;i2;i3;i4;"+head+onReply)
	}
}

// TestCL3Else: bytes that tell no command, and no reply: those of other things, and those with more about them.
func TestCL3Else(t *testing.T) {
	for _, b := range []string{"", onOrder, onReply, bytes(onCommand), onCommand + "i0;", onCommand + " ", " " + onCommand, onCommand[:len(onCommand)-1], onCommand[1:], onCommand + onCommand, "n" + onCommand[1:], "i3;i5;b47:" + onOrder, "i3;i5;i6;" + onOrder, "i3;i5;i6;i7;b47:" + onOrder, "i3;i5;i6;t47:" + onOrder} {
		noRequest(t, "of no command", onRequest("1", "2", "y", b))
	}
	for _, b := range []string{"", onOrder, onCommand, bytes(onReply), onReply + "i0;", onReply + " ", " " + onReply, onReply[:len(onReply)-1], onReply[1:], onReply + onReply, "n" + onReply[1:], "i9;b15:i7;n1;n2;n3;n4;", "i9;i8;i7;n1;n2;n3;n4;", "i9;i8;i7;b15:i7;n1;n2;n3;n4;", "i9;i8;t15:i7;n1;n2;n3;n4;"} {
		noAnswer(t, "of no reply", onAnswer("1", "2", "3", "4", b))
	}
	noRequest(t, "of a command without its length", "i1;i2;y"+onCommand)
	noRequest(t, "of an answer", onAnswer("1", "2", "3", "4", onReply))
	noAnswer(t, "of a reply without its length", "i1;i2;i3;i4;"+onReply)
	noAnswer(t, "of a request", onRequest("1", "2", "y", onCommand))
	noAnswer(t, "of a number less", "i1;i2;i3;"+bytes(onReply))
	noAnswer(t, "of a number more", "i1;i2;i3;i4;i5;"+bytes(onReply))
	noRequest(t, "of a number less", "i1;z"+bytes(onCommand))
	noRequest(t, "of a number more", "i1;i2;i3;z"+bytes(onCommand))
}

// TestCL3Cut: no begin and no end of the bytes is one, nor are they with more behind or ahead.
func TestCL3Cut(t *testing.T) {
	more := []string{"\x00", " ", ";", "0", "n", "n0;", "y", "z", "t0:", "b0:", "i0;"}
	for _, r := range []client.Request{{}, {Client: 3, Number: 1, Command: opening()}, {Client: 64, Number: api.MaxIndex, Reads: true, Command: command()}, {Client: math.MinInt, Number: math.MaxInt}} {
		s := string(client.Encode(r))
		requestIs(t, s, r)
		for i := range len(s) {
			noRequest(t, "cut short", s[:i])
			noRequest(t, "without its begin", s[i+1:])
		}
		for _, m := range append(more, s) {
			noRequest(t, "with more behind", s+m)
			noRequest(t, "with more ahead", m+s)
		}
	}
	for _, a := range []client.Answer{{}, {Client: 3, Number: 1, Leader: 2, Reply: reply()}, {Client: math.MinInt, Number: math.MaxInt, Err: -1, Leader: math.MinInt}} {
		s := string(client.EncodeAnswer(a))
		answerIs(t, s, a)
		for i := range len(s) {
			noAnswer(t, "cut short", s[:i])
			noAnswer(t, "without its begin", s[i+1:])
		}
		for _, m := range append(more, s) {
			noAnswer(t, "with more behind", s+m)
			noAnswer(t, "with more ahead", m+s)
		}
	}
}

// TestCL3Changed: a byte changed makes other bytes, or none: never the same request, or answer.
func TestCL3Changed(t *testing.T) {
	r := client.Request{Client: 1, Number: 23, Reads: true, Command: command()}
	a := client.Answer{Client: 1, Number: 23, Err: -4, Leader: 5, Reply: reply()}
	in, out := string(client.Encode(r)), string(client.EncodeAnswer(a))
	for _, x := range []byte("\x00 -:;0123456789abintyz\xff") {
		for i := range in {
			s := in[:i] + string(rune(x)) + in[i+1:]
			if x < 0x80 && s != in {
				if got, err := client.Decode([]byte(s)); err == nil && (shownRequest(got) == shownRequest(r) || string(client.Encode(got)) != s) {
					t.Errorf("Decode of %q: %s", s, shownRequest(got))
				}
			}
		}
		for i := range out {
			s := out[:i] + string(rune(x)) + out[i+1:]
			if x < 0x80 && s != out {
				if got, err := client.DecodeAnswer([]byte(s)); err == nil && (shownAnswer(got) == shownAnswer(a) || string(client.EncodeAnswer(got)) != s) {
					t.Errorf("DecodeAnswer of %q: %s", s, shownAnswer(got))
				}
			}
		}
	}
}

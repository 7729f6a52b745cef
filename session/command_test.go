package session_test

import (
	"math"
	"slices"
	"strconv"
	"strings"
	"testing"

	"tollbar/api"
	"tollbar/order"
	"tollbar/quota"
	"tollbar/session"
)

// onCommand are a command's bytes, of its numbers as digits.
func onCommand(kind, number, seq, o string) string {
	return "i" + kind + ";i" + number + ";i" + seq + ";" + bytes(o)
}

// plain are an order's bytes, and plainOrder is the order of these.
const plain = "i1;t2:abt2:cdn1;n2;n3;n4;n5;n6;t2:eft2:ghn7;n8;"

func plainOrder() order.Order {
	return order.Order{Kind: 1, Node: node("ab", "cd", 1+2i, 3+4i, 5+6i), Use: quota.Use{ID: "ef", Node: "gh", Amount: 7 + 8i}}
}

// sameCommand tells whether two commands are the same, the signs of noughts too.
func sameCommand(a, b session.Command) bool {
	n, m, u, v := a.Order.Node, b.Order.Node, a.Order.Use, b.Order.Use
	return a.Kind == b.Kind && a.Session == b.Session && a.Seq == b.Seq && a.Order.Kind == b.Order.Kind &&
		n.Name == m.Name && n.Parent == m.Parent && same(n.Own, m.Own) && same(n.Borrow, m.Borrow) && same(n.Lend, m.Lend) &&
		u.ID == v.ID && u.Node == v.Node && same(u.Amount, v.Amount)
}

// commandIs looks at bytes that must be a command's, and at that its bytes are these.
func commandIs(t *testing.T, in string, want session.Command) {
	t.Helper()
	got, err := session.DecodeCommand([]byte(in))
	if err != nil || !sameCommand(got, want) {
		t.Errorf("DecodeCommand of %q: %v, %v, not %v", in, got, err, want)
	}
	if s := string(session.EncodeCommand(want)); s != in {
		t.Errorf("EncodeCommand of %v: %q, not %q", want, s, in)
	}
}

// noCommand looks at bytes that must be no command's.
func noCommand(t *testing.T, what, in string) {
	t.Helper()
	got, err := session.DecodeCommand([]byte(in))
	if errno(err) != api.ErrForm || !sameCommand(got, session.Command{}) {
		t.Errorf("DecodeCommand, %s: %v, %v, of %.300q", what, got, err, in)
	}
}

// badInts are digits that are no int.
func badInts() []string {
	return []string{"", "-", "-0", "00", "01", "-01", "+1", " 1", "1.0", "a", "9223372036854775808", "-9223372036854775809", "18446744073709551615", "18446744073709551617"}
}

// ints are numbers about the bounds of some.
func ints() []int {
	return []int{0, 1, 2, 3, 4, 9, 10, -1, -2, -10, api.MaxIndex, api.MaxIndex + 1, -api.MaxIndex, 1 << 32, -1 << 32, math.MaxInt, math.MaxInt - 1, math.MinInt, math.MinInt + 1}
}

// TestSE3Command: what stands in a command's bytes, one behind the other.
func TestSE3Command(t *testing.T) {
	commandIs(t, "i1;i0;i0;b39:i0;t0:t0:n0;n0;n0;n0;n0;n0;t0:t0:n0;n0;", session.Command{Kind: session.Open})
	commandIs(t, "i3;i5;i7;b40:i4;t1:rt0:n5;n5;n0;n0;n0;n0;t0:t0:n0;n0;", session.Command{Kind: session.Ask, Session: 5, Seq: 7, Order: order.Order{Kind: order.AddNode, Node: quota.Node{Name: "r", Own: 5 + 5i}}})
	commandIs(t, "i2;i-5;i-7;b47:"+plain, session.Command{Kind: session.Close, Session: -5, Seq: -7, Order: plainOrder()})
	for _, n := range ints() {
		s := strconv.Itoa(n)
		commandIs(t, onCommand(s, "12", "13", plain), session.Command{Kind: n, Session: 12, Seq: 13, Order: plainOrder()})
		commandIs(t, onCommand("11", s, "13", plain), session.Command{Kind: 11, Session: n, Seq: 13, Order: plainOrder()})
		commandIs(t, onCommand("11", "12", s, plain), session.Command{Kind: 11, Session: 12, Seq: n, Order: plainOrder()})
	}
	commandIs(t, onCommand("-9223372036854775808", "9223372036854775807", "-9223372036854775808", plain), session.Command{Kind: math.MinInt, Session: math.MaxInt, Seq: math.MinInt, Order: plainOrder()})
}

// TestSE3CommandNumbers: what is no number, in each place.
func TestSE3CommandNumbers(t *testing.T) {
	for _, n := range badInts() {
		noCommand(t, "of a kind that is no number", onCommand(n, "1", "1", plain))
		noCommand(t, "of a session that is no number", onCommand("1", n, "1", plain))
		noCommand(t, "of a seq that is no number", onCommand("1", "1", n, plain))
	}
	for _, letter := range []string{"n", "t", "b", "y", "z", "", "I"} {
		noCommand(t, "of another letter", letter+"1;i2;i3;"+bytes(plain))
		noCommand(t, "of another letter", "i1;"+letter+"2;i3;"+bytes(plain))
		noCommand(t, "of another letter", "i1;i2;"+letter+"3;"+bytes(plain))
	}
	for _, letter := range []string{"n", "t", "i", "y", "z", "", "B"} {
		noCommand(t, "of another letter", "i1;i2;i3;"+letter+bytes(plain)[1:])
	}
}

// TestSE3CommandNames: names of MaxLabel bytes, and of one more, in each place; an order that is as long as may be.
func TestSE3CommandNames(t *testing.T) {
	long := strings.Repeat("n", api.MaxLabel)
	for place := range 4 {
		for _, s := range []string{"", "a", "\x00", "\xff;:", long[1:], long, long + "n", long + "\x00", strings.Repeat("n", 300), strings.Repeat("n", 1000)} {
			o := plainOrder()
			*[4]*string{&o.Node.Name, &o.Node.Parent, &o.Use.ID, &o.Use.Node}[place] = s
			old := [4]string{"ab", "cd", "ef", "gh"}[place]
			in := onCommand("3", "1", "2", strings.Replace(plain, text(old), text(s), 1))
			do := session.Command{Kind: 3, Session: 1, Seq: 2, Order: o}
			if len(s) <= api.MaxLabel {
				commandIs(t, in, do)
				continue
			}
			if got := string(session.EncodeCommand(do)); got != in {
				t.Errorf("EncodeCommand of %v: %q, not %q", do, got, in)
			}
			noCommand(t, "with a name that is too long", in)
		}
	}
	whole := c(most, most)
	o := order.Order{Kind: math.MinInt, Node: node(long, long, whole, whole, whole), Use: quota.Use{ID: long, Node: long, Amount: whole}}
	do := session.Command{Kind: math.MinInt, Session: math.MinInt, Seq: math.MinInt, Order: o}
	commandIs(t, string(session.EncodeCommand(do)), do)
}

// TestSE3CommandAmounts: amounts 0 and MaxAmount, and what is none, of which nothing is laid, in each place.
func TestSE3CommandAmounts(t *testing.T) {
	for place := range 4 {
		lost := "n" + strconv.Itoa(2*place+1) + ";n" + strconv.Itoa(2*place+2) + ";"
		with := func(amount complex128, laid string) (session.Command, string) {
			o := plainOrder()
			*[4]*complex128{&o.Node.Own, &o.Node.Borrow, &o.Node.Lend, &o.Use.Amount}[place] = amount
			return session.Command{Kind: 3, Session: 1, Seq: 2, Order: o}, onCommand("3", "1", "2", strings.Replace(plain, lost, laid, 1))
		}
		for _, x := range [][2]int{{0, 0}, {1, 0}, {0, 1}, {most, 0}, {0, most}, {most, most}, {most - 1, 3}} {
			do, in := with(c(x[0], x[1]), "n"+strconv.Itoa(x[0])+";n"+strconv.Itoa(x[1])+";")
			commandIs(t, in, do)
		}
		for _, bad := range nones() {
			do, in := with(bad, "")
			if got := string(session.EncodeCommand(do)); got != in {
				t.Errorf("EncodeCommand of %v: %q, not %q", do, got, in)
			}
			noCommand(t, "without an amount", in)
		}
		for _, laid := range []string{"n1099511627777;n0;", "n0;n1099511627777;", "n-1;n0;", "n0;n00;", "n18446744073709551616;n1;"} {
			_, in := with(0, laid)
			noCommand(t, "with an amount that is none", in)
		}
	}
}

// TestSE3CommandOrder: an order's bytes as order has them, and no other ones, of whatever length.
func TestSE3CommandOrder(t *testing.T) {
	bad := []string{"", "i1;", plain[:len(plain)-1], plain + "n0;", plain + " ", " " + plain, plain + plain, bytes(plain), "n" + plain[1:]}
	for _, length := range []int{511, 512, 513, 1000, api.MaxBytes} {
		bad = append(bad, plain+strings.Repeat("0", length-len(plain)), strings.Repeat("n", length), "i1;"+text(strings.Repeat("n", length)))
	}
	for _, o := range bad {
		noCommand(t, "with an order that is none", onCommand("3", "1", "2", o))
	}
	noCommand(t, "with a text for an order", "i3;i1;i2;"+text(plain))
	noCommand(t, "with an order without its length", "i3;i1;i2;"+plain)
	for _, head := range []string{"b047:", "b46:", "b48:", "b:", "b47;", "b-47:", "b513:", "b18446744073709551615:"} {
		noCommand(t, "with an order of another length", "i3;i1;i2;"+head+plain)
	}
}

// TestSE3CommandCut: no begin of a command's bytes is one, nor are they with more behind or ahead.
func TestSE3CommandCut(t *testing.T) {
	for _, do := range []session.Command{{}, {Kind: session.Open}, {Kind: session.Close, Session: 5}, asks(api.MaxIndex, math.MaxInt, plainOrder()), {Kind: math.MinInt, Session: -1, Seq: -12, Order: plainOrder()}} {
		s := string(session.EncodeCommand(do))
		commandIs(t, s, do)
		for i := range len(s) {
			noCommand(t, "cut short", s[:i])
			noCommand(t, "without its begin", s[i+1:])
		}
		for _, more := range []string{"\x00", " ", ";", "0", "n", "n0;", "y", "t0:", "b0:", "i0;", s} {
			noCommand(t, "with more behind", s+more)
			noCommand(t, "with more ahead", more+s)
		}
	}
	if got, err := session.DecodeCommand(nil); errno(err) != api.ErrForm || !sameCommand(got, session.Command{}) {
		t.Errorf("DecodeCommand of nil: %v, %v", got, err)
	}
	noCommand(t, "of a reply", zero)
	noCommand(t, "of an order", plain)
}

// TestSE3CommandChanged: each byte changed into any other one makes no bytes of a command, or those of another one.
func TestSE3CommandChanged(t *testing.T) {
	is := asks(12, 34, plainOrder())
	s := session.EncodeCommand(is)
	for i := range s {
		for other := range 256 {
			b := slices.Clone(s)
			b[i] = byte(other)
			do, err := session.DecodeCommand(b)
			if err != nil {
				noCommand(t, "changed", string(b))
				continue
			}
			commandIs(t, string(b), do)
			if other != int(s[i]) && sameCommand(do, is) {
				t.Errorf("%q and %q are the same command", s, b)
			}
		}
	}
}

package session_test

import (
	"math"
	"testing"

	"tollbar/api"
	"tollbar/order"
	"tollbar/quota"
	"tollbar/session"
)

// TestSE1Numbers: of 0, of the last number and of those about it, and of the least and the greatest int, behind each number.
func TestSE1Numbers(t *testing.T) {
	table, reply := session.New(), session.Reply{}
	applies(t, table, 1, opens(), done(1))
	for at := range 6 {
		last(t, table, 1, at, reply)
		for _, seq := range []int{math.MinInt, math.MinInt + 1, -api.MaxIndex, -1 << 32, -2, -1} {
			applies(t, table, 2, asks(1, seq, query("r")), refused(api.ErrOld))
		}
		for seq := range at {
			applies(t, table, 2, asks(1, seq, add(node("r", "", 1, 0, 0))), refused(api.ErrOld))
		}
		if at == 0 {
			applies(t, table, 2, asks(1, 0, add(node("r", "", 1, 0, 0))), refused(api.ErrGap))
		} else {
			applies(t, table, 2, asks(1, at, remove("r")), reply)
		}
		for _, seq := range []int{at + 2, at + 3, at + 1 + 1<<32, api.MaxIndex, math.MaxInt - 1, math.MaxInt} {
			applies(t, table, 2, asks(1, seq, add(node("r", "", 1, 0, 0))), refused(api.ErrGap))
		}
		if at%2 == 0 {
			reply = told(1, 0, c(at, at+1))
			applies(t, table, 3, asks(1, at+1, add(node("r", "", c(at, at+1), 0, 0))), reply)
		} else {
			reply = done(1)
			applies(t, table, 3, asks(1, at+1, remove("r")), reply)
		}
	}
}

// TestSE1Greatest: a session that asked for as much as a table's bytes can tell.
func TestSE1Greatest(t *testing.T) {
	kept := session.Reply{Session: 3, Answer: order.Answer{Err: 9, Used: 1 + 2i, Total: 3 + 4i}}
	table := decodes(t, onTable("n0;n0;", onSession("3", "1099511627775", "i0;i3;b15:i9;n1;n2;n3;n4;")))
	applies(t, table, 1, asks(3, api.MaxIndex-1, query("r")), kept)
	applies(t, table, 1, asks(3, api.MaxIndex-2, query("r")), refused(api.ErrOld))
	applies(t, table, 1, asks(3, api.MaxIndex+1, query("r")), refused(api.ErrGap))
	applies(t, table, 1, asks(3, api.MaxIndex, query("r")), denied(3, api.ErrNone))
	last(t, table, 3, api.MaxIndex, denied(3, api.ErrNone))
	applies(t, table, 1, asks(3, math.MaxInt, query("r")), refused(api.ErrGap))
	applies(t, table, 1, asks(3, 0, query("r")), refused(api.ErrOld))
}

// TestSE1Gone: a session that is not there, ahead of what is said of numbers.
func TestSE1Gone(t *testing.T) {
	table := busy(t)
	for _, number := range []int{0, -1, -5, 4, 6, 8, 10, 5 + 1<<32, 9 - 1<<32, api.MaxIndex, math.MinInt, math.MaxInt} {
		for _, seq := range []int{math.MinInt, -1, 0, 1, 2, 3, math.MaxInt} {
			applies(t, table, 5, asks(number, seq, add(node("s", "", 1, 0, 0))), refused(api.ErrGone))
		}
	}
	applies(t, session.New(), 1, asks(1, 1, add(node("s", "", 1, 0, 0))), refused(api.ErrGone))
}

// TestSE1Orders: each kind of order is done as package order does it; an error of its is in the answer alone.
func TestSE1Orders(t *testing.T) {
	table := session.New()
	applies(t, table, 1, opens(), done(1))
	steps := []struct {
		o    order.Order
		want session.Reply
	}{
		{query("r"), denied(1, api.ErrNone)},
		{add(node("r", "", 2+2i, 0, 0)), told(1, 0, 2+2i)},
		{add(node("a", "r", 4+4i, 9+9i, 0)), told(1, 0, 4+4i)},
		{add(node("b", "r", 4+4i, 0, 1+1i)), told(1, 0, 4+4i)},
		{add(node("b", "r", 4+4i, 0, 1+1i)), denied(1, api.ErrTwice)},
		{query("r"), told(1, 0, 10+10i)},
		{admit("x", "a", 3+2i), told(1, 3+2i, 4+4i)},
		{admit("y", "a", 4+5i), told(1, 7+7i, 4+4i)},
		{admit("z", "a", 1), denied(1, api.ErrQuota)},
		{admit("z", "a", most), denied(1, api.ErrOver)},
		{admit("", "a", 1), denied(1, api.ErrName)},
		{admit("z", "a", 0.5), denied(1, api.ErrArg)},
		{query("r"), told(1, 7+7i, 10+10i)},
		{set(node("b", "", 4+4i, 0, 0)), denied(1, api.ErrUsed)},
		{set(node("a", "?", 5+4i, 9+9i, 0)), told(1, 7+7i, 5+4i)},
		{release("y"), done(1)},
		{release("y"), denied(1, api.ErrNone)},
		{remove("a"), denied(1, api.ErrUsed)},
		{release("x"), done(1)},
		{remove("a"), done(1)},
		{query("a"), denied(1, api.ErrNone)},
		{order.Order{}, denied(1, api.ErrArg)},
		{order.Order{Kind: 7, Node: node("c", "", 1, 0, 0)}, denied(1, api.ErrArg)},
		{order.Order{Kind: -1, Node: node("c", "", 1, 0, 0)}, denied(1, api.ErrArg)},
		{query("r"), told(1, 0, 6+6i)},
	}
	for i, step := range steps {
		applies(t, table, 2+i, asks(1, i+1, step.o), step.want)
		last(t, table, 1, i+1, step.want)
	}
}

// TestSE1Again: what is asked for again is answered the same, and the table is the same byte by byte, whatever the order is now, and whatever else was done since.
func TestSE1Again(t *testing.T) {
	table := busy(t)
	firsts := []struct {
		o    order.Order
		want session.Reply
	}{
		{admit("x", "r", 2+3i), told(5, 2+3i, 7+8i)},
		{admit("x", "r", 1), denied(5, api.ErrTwice)},
		{admit("y", "r", 6), denied(5, api.ErrQuota)},
		{query("r"), told(5, 2+3i, 7+8i)},
		{release("y"), denied(5, api.ErrNone)},
		{order.Order{}, denied(5, api.ErrArg)},
		{release("x"), done(5)},
		{remove("r"), done(5)},
		{add(node("r", "", 7+8i, 0, 0)), told(5, 0, 7+8i)},
		{add(node("r", "", 7+8i, 0, 0)), denied(5, api.ErrTwice)},
	}
	for i, first := range firsts {
		applies(t, table, 20+i, asks(5, i+2, first.o), first.want)
		before := all(table)
		for _, o := range []order.Order{first.o, first.o, query("s"), remove("r"), admit("v", "r", 0), {}} {
			applies(t, table, 40, asks(5, i+2, o), first.want)
		}
		applies(t, table, api.MaxIndex, asks(5, i+2, first.o), first.want)
		if now := all(table); now != before {
			t.Errorf("%v asked for again changes %s to %s", first.o, before, now)
		}
		// The other one does something, and undoes it: what is kept of the first one's stays.
		applies(t, table, 60, asks(9, 2*i+1, add(node("s", "", c(i, 1), 0, 0))), told(9, 0, c(i, 1)))
		applies(t, table, 61, asks(5, i+2, first.o), first.want)
		applies(t, table, 62, asks(9, 2*i+2, remove("s")), done(9))
		applies(t, table, 63, asks(5, i+2, first.o), first.want)
	}
}

// TestSE1BehindRefusal: a refusal is what was asked for last: the same again is refused, even where it would be done now.
func TestSE1BehindRefusal(t *testing.T) {
	table := busy(t)
	applies(t, table, 11, asks(5, 2, admit("x", "s", 1)), denied(5, api.ErrNone))
	applies(t, table, 12, asks(9, 1, add(node("s", "", 3, 0, 0))), told(9, 0, 3))
	applies(t, table, 13, asks(5, 2, admit("x", "s", 1)), denied(5, api.ErrNone))
	applies(t, table, 14, asks(5, 3, admit("x", "s", 1)), told(5, 1, 3))
	applies(t, table, 15, asks(5, 2, admit("x", "s", 1)), refused(api.ErrOld))
	applies(t, table, 16, asks(5, 3, admit("x", "s", 1)), told(5, 1, 3))
	// What the table itself refuses counts for nothing.
	applies(t, table, 17, asks(5, 5, admit("y", "s", 1)), refused(api.ErrGap))
	last(t, table, 5, 3, told(5, 1, 3))
	applies(t, table, 18, asks(5, 4, admit("y", "s", 1)), told(5, 2, 3))
	applies(t, table, 19, asks(5, 5, admit("z", "s", 2)), denied(5, api.ErrQuota))
}

// TestSE1Beside: each session has numbers of its own; the index says nothing of them.
func TestSE1Beside(t *testing.T) {
	table := session.New()
	for _, index := range []int{3, 1, 2} {
		applies(t, table, index, opens(), done(index))
	}
	applies(t, table, 3, asks(1, 1, add(node("r", "", 9, 0, 0))), told(1, 0, 9))
	applies(t, table, 1, asks(2, 1, admit("x", "r", 1)), told(2, 1, 9))
	applies(t, table, 1, asks(3, 1, admit("y", "r", 2)), told(3, 3, 9))
	applies(t, table, 2, asks(2, 2, admit("z", "r", 3)), told(2, 6, 9))
	applies(t, table, 1, asks(1, 1, query("?")), told(1, 0, 9))
	applies(t, table, 1, asks(3, 1, query("?")), told(3, 3, 9))
	applies(t, table, 1, asks(1, 3, query("r")), refused(api.ErrGap))
	applies(t, table, 1, asks(3, 3, query("r")), refused(api.ErrGap))
	applies(t, table, 1, asks(2, 1, query("r")), refused(api.ErrOld))
	applies(t, table, 9, closes(2), done(2))
	last(t, table, 1, 1, told(1, 0, 9))
	last(t, table, 3, 1, told(3, 3, 9))
	gone(t, table, 2)
	has(t, table, 1, 3)
}

// TestSE1Bounds: amounts and names as great as they may be, and beyond.
func TestSE1Bounds(t *testing.T) {
	table := session.New()
	name := ""
	for range api.MaxLabel {
		name += "n"
	}
	whole := c(most, most)
	applies(t, table, api.MaxIndex, opens(), done(api.MaxIndex))
	applies(t, table, 1, asks(api.MaxIndex, 1, add(node(name, "", whole, whole, whole))), told(api.MaxIndex, 0, whole))
	applies(t, table, 1, asks(api.MaxIndex, 2, admit(name, name, whole)), told(api.MaxIndex, whole, whole))
	applies(t, table, 1, asks(api.MaxIndex, 2, admit(name, name, whole)), told(api.MaxIndex, whole, whole))
	applies(t, table, 1, asks(api.MaxIndex, 3, add(node(name+"n", "", 0, 0, 0))), denied(api.MaxIndex, api.ErrName))
	for i, bad := range nones() {
		applies(t, table, 1, asks(api.MaxIndex, 2*i+4, add(node("s", "", bad, 0, 0))), denied(api.MaxIndex, api.ErrArg))
		applies(t, table, 1, asks(api.MaxIndex, 2*i+5, order.Order{Kind: order.Admit, Use: quota.Use{ID: "x", Node: name, Amount: bad}}), denied(api.MaxIndex, api.ErrArg))
	}
}

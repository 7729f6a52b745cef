package session_test

import (
	"errors"
	"fmt"
	"math"
	"slices"
	"strings"
	"testing"

	"tollbar/api"
	"tollbar/order"
	"tollbar/quota"
	"tollbar/session"
)

const most = api.MaxAmount

// c is an amount of two numbers, whatever package pair says of them.
func c(a, b int) complex128 { return complex(float64(a), float64(b)) }

// nones are complex numbers that are no amounts.
func nones() []complex128 {
	below := math.Copysign(0, -1)
	l := []complex128{complex(below, below)}
	for _, p := range []float64{-1, 0.5, below, most + 1, math.Inf(1), math.Inf(-1), math.NaN()} {
		l = append(l, complex(p, 1), complex(1, p))
	}
	return l
}

// noKinds are numbers that are no kinds of a command: about the bounds, and those that a smaller number would have for one.
func noKinds() []int {
	l := []int{math.MinInt, -3, -2, -1, 0, 4, 5, 6, math.MaxInt}
	for kind := 1; kind <= 3; kind++ {
		l = append(l, kind+1<<8, kind+1<<16, kind+1<<32, kind-1<<8, kind-1<<32)
	}
	return l
}

// badIndexes are numbers at which nothing can be applied.
func badIndexes() []int {
	return []int{math.MinInt, -api.MaxIndex, -1, 0, api.MaxIndex + 1, api.MaxIndex + 2, 1<<41 + 1, math.MaxInt}
}

// errno is an error's number; -1, if it has none.
func errno(err error) api.Errno {
	var n api.Errno
	if err != nil && !errors.As(err, &n) {
		return -1
	}
	return n
}

// same tells whether two amounts are the same, the signs of noughts too.
func same(a, b complex128) bool {
	return math.Float64bits(real(a)) == math.Float64bits(real(b)) && math.Float64bits(imag(a)) == math.Float64bits(imag(b))
}

// sameAnswer tells the same of two answers.
func sameAnswer(a, b order.Answer) bool {
	return a.Err == b.Err && same(a.Used, b.Used) && same(a.Total, b.Total)
}

// sameReply tells the same of two replies.
func sameReply(a, b session.Reply) bool {
	return a.Err == b.Err && a.Session == b.Session && sameAnswer(a.Answer, b.Answer)
}

// refused is a reply of an error.
func refused(err api.Errno) session.Reply { return session.Reply{Err: int(err)} }

// done is a reply to an open or a close, and to an ask of which nothing is told.
func done(number int) session.Reply { return session.Reply{Session: number} }

// told is a reply to an ask, with what is told of a node.
func told(number int, used, total complex128) session.Reply {
	return session.Reply{Session: number, Answer: order.Answer{Used: used, Total: total}}
}

// denied is a reply to an ask of which the answer is an error.
func denied(number int, err api.Errno) session.Reply {
	return session.Reply{Session: number, Answer: order.Answer{Err: int(err)}}
}

// node is a node of the amounts in short form.
func node(name, parent string, own, borrow, lend complex128) quota.Node {
	return quota.Node{Name: name, Parent: parent, Own: own, Borrow: borrow, Lend: lend}
}

// The orders below have, where their kind asks for nothing, what would be refused, or would tell of another node.

func admit(id, at string, amount complex128) order.Order {
	return order.Order{Kind: order.Admit, Node: node("r", "?", -1, -1, -1), Use: quota.Use{ID: id, Node: at, Amount: amount}}
}

func release(id string) order.Order {
	return order.Order{Kind: order.Release, Node: node("r", "?", -1, -1, -1), Use: quota.Use{ID: id, Node: "?", Amount: -1}}
}

func set(n quota.Node) order.Order {
	return order.Order{Kind: order.SetQuota, Node: n, Use: quota.Use{Node: "r", Amount: -1}}
}

func add(n quota.Node) order.Order {
	return order.Order{Kind: order.AddNode, Node: n, Use: quota.Use{Node: "r", Amount: -1}}
}

func remove(name string) order.Order {
	return order.Order{Kind: order.RemoveNode, Node: node(name, "?", -1, -1, -1), Use: quota.Use{Node: "r", Amount: -1}}
}

func query(name string) order.Order {
	return order.Order{Kind: order.Query, Node: node(name, "?", -1, -1, -1), Use: quota.Use{Node: "r", Amount: -1}}
}

// The commands below have, where their kind asks for nothing, what would be refused, or is another session's.

func opens() session.Command {
	return session.Command{Kind: session.Open, Session: -1, Seq: -1, Order: remove("?")}
}

func closes(number int) session.Command {
	return session.Command{Kind: session.Close, Session: number, Seq: -1, Order: remove("?")}
}

func asks(number, seq int, o order.Order) session.Command {
	return session.Command{Kind: session.Ask, Session: number, Seq: seq, Order: o}
}

// all is all that there is in a table: its bytes, and what its calls tell of it.
func all(table *session.Table) string {
	var b strings.Builder
	b.Write(table.Encode())
	fmt.Fprintln(&b, table.Sessions())
	for _, n := range table.Sessions() {
		seq, reply, err := table.Last(n)
		fmt.Fprintln(&b, n, seq, reply, err)
	}
	b.Write(table.Tree().Encode())
	return b.String()
}

// copied is a table that is made of another one's bytes.
func copied(t *testing.T, table *session.Table) *session.Table {
	t.Helper()
	b := table.Encode()
	d, err := session.Decode(b)
	if err != nil {
		t.Fatalf("Decode of %s: %v", b, err)
	}
	if all(d) != all(table) {
		t.Fatalf("Decode: %s, not %s", all(d), all(table))
	}
	return d
}

// applies looks at a reply, of a table and of one made of its bytes, and at that with an error nothing has changed.
func applies(t *testing.T, table *session.Table, index int, do session.Command, want session.Reply) {
	t.Helper()
	before, other := all(table), copied(t, table)
	if got := table.Apply(index, do); !sameReply(got, want) {
		t.Errorf("Apply at %d of %v: %v, not %v", index, do, got, want)
	}
	after := all(table)
	if got := other.Apply(index, do); !sameReply(got, want) {
		t.Errorf("Apply at %d of %v, by one made of bytes: %v, not %v", index, do, got, want)
	}
	if now := all(other); now != after {
		t.Errorf("Apply at %d of %v: the table is %s, one made of its bytes %s", index, do, after, now)
	}
	if want.Err != 0 && after != before {
		t.Errorf("Apply at %d of %v changes %s to %s", index, do, before, after)
	}
}

// has looks at all sessions of a table, and at what each asked for last.
func has(t *testing.T, table *session.Table, numbers ...int) {
	t.Helper()
	if got := table.Sessions(); !slices.Equal(got, numbers) {
		t.Errorf("Sessions: %v, not %v", got, numbers)
	}
}

// last looks at what a session asked for last.
func last(t *testing.T, table *session.Table, number, seq int, reply session.Reply) {
	t.Helper()
	if got, r, err := table.Last(number); got != seq || !sameReply(r, reply) || err != nil {
		t.Errorf("Last of %d: %d, %v, %v, not %d, %v", number, got, r, err, seq, reply)
	}
}

// gone looks at that there is no such session.
func gone(t *testing.T, table *session.Table, number int) {
	t.Helper()
	if seq, r, err := table.Last(number); seq != 0 || !sameReply(r, session.Reply{}) || errno(err) != api.ErrGone {
		t.Errorf("Last of %d: %d, %v, %v", number, seq, r, err)
	}
}

// TestExample: the document's example.
func TestExample(t *testing.T) {
	table := session.New()
	if got := table.Apply(1, session.Command{Kind: 1}); !sameReply(got, session.Reply{Session: 1}) {
		t.Errorf("Open: %v", got)
	}
	ask := session.Command{Kind: 3, Session: 1, Seq: 1, Order: order.Order{Kind: 4, Node: quota.Node{Name: "r", Own: 5 + 5i}}}
	want := session.Reply{Session: 1, Answer: order.Answer{Total: 5 + 5i}}
	for index := 2; index <= 3; index++ {
		if got := table.Apply(index, ask); !sameReply(got, want) {
			t.Errorf("Ask at %d: %v", index, got)
		}
	}
	if got := table.Tree().Nodes(); !slices.Equal(got, []string{"r"}) {
		t.Errorf("Nodes: %v", got)
	}
}

// TestSE1Kinds: the numbers of the kinds.
func TestSE1Kinds(t *testing.T) {
	if session.Open != 1 || session.Close != 2 || session.Ask != 3 {
		t.Errorf("%d, %d, %d", session.Open, session.Close, session.Ask)
	}
}

// commands are some of each kind, that would each do something at the table that busy makes.
func commands() []session.Command {
	return []session.Command{opens(), closes(5), asks(5, 2, add(node("s", "", 1, 0, 0))), asks(9, 1, admit("y", "r", 1))}
}

// busy is a table with two sessions, 5 and 9, of which the first one asked for something.
func busy(t *testing.T) *session.Table {
	t.Helper()
	table := session.New()
	applies(t, table, 9, opens(), done(9))
	applies(t, table, 5, opens(), done(5))
	applies(t, table, 10, asks(5, 1, add(node("r", "", 7+8i, 0, 0))), told(5, 0, 7+8i))
	return table
}

// TestSE1Index: an index beyond a bound, at the bounds, and within them, of each kind.
func TestSE1Index(t *testing.T) {
	for _, do := range commands() {
		table := busy(t)
		for _, index := range badIndexes() {
			applies(t, table, index, do, refused(api.ErrArg))
		}
		for _, index := range []int{1, 2, 5<<30 + 3, api.MaxIndex - 1, api.MaxIndex} {
			one := copied(t, table)
			if got := one.Apply(index, do); got.Err != 0 || all(one) == all(table) {
				t.Errorf("Apply at %d of %v: %v", index, do, got)
			}
		}
	}
}

// TestSE1NoKind: a command of no kind does nothing, whatever else it has.
func TestSE1NoKind(t *testing.T) {
	table := busy(t)
	for _, do := range append(commands(), session.Command{}, asks(7, 1, query("r"))) {
		for _, kind := range noKinds() {
			do.Kind = kind
			applies(t, table, 11, do, refused(api.ErrArg))
		}
	}
	has(t, table, 5, 9)
}

// TestSE1Nil: no table does nothing, whatever is applied.
func TestSE1Nil(t *testing.T) {
	var table *session.Table
	for _, do := range append(commands(), session.Command{}, session.Command{Kind: 4}) {
		for _, index := range append(badIndexes(), 1, 7, api.MaxIndex) {
			if got := table.Apply(index, do); !sameReply(got, refused(api.ErrArg)) {
				t.Errorf("Apply at %d of %v, without a table: %v", index, do, got)
			}
		}
	}
}

// TestSE1Arg: ErrArg comes ahead of all others.
func TestSE1Arg(t *testing.T) {
	table := crowd(t)
	for _, do := range []session.Command{opens(), closes(999), asks(999, 1, query("r")), asks(1, -1, query("r")), asks(1, 9, query("r")), {Kind: 4}} {
		for _, index := range badIndexes() {
			applies(t, table, index, do, refused(api.ErrArg))
		}
	}
}

// crowd is a table of MaxClients sessions: 1 to MaxClients, opened backwards.
func crowd(t *testing.T) *session.Table {
	t.Helper()
	table := session.New()
	for i := range api.MaxClients {
		number := api.MaxClients - i
		if got := table.Apply(number, opens()); !sameReply(got, done(number)) {
			t.Fatalf("Open at %d: %v", number, got)
		}
	}
	return table
}

// TestSE1Open: a session has the number of its index; the rest of the command says nothing.
func TestSE1Open(t *testing.T) {
	table := session.New()
	has(t, table)
	for i, index := range []int{7, 1, api.MaxIndex, 3, 1 << 32, 2} {
		applies(t, table, index, session.Command{Kind: session.Open, Session: 7, Seq: i, Order: add(node("r", "", 1, 0, 0))}, done(index))
		last(t, table, index, 0, session.Reply{})
	}
	has(t, table, 1, 2, 3, 7, 1<<32, api.MaxIndex)
	if got := table.Tree().Nodes(); len(got) != 0 {
		t.Errorf("Nodes: %v", got)
	}
	for _, index := range table.Sessions() {
		applies(t, table, index, opens(), refused(api.ErrTwice))
	}
	// What it asked for stays as it is.
	applies(t, table, 8, asks(7, 1, query("r")), denied(7, api.ErrNone))
	applies(t, table, 7, opens(), refused(api.ErrTwice))
	last(t, table, 7, 1, denied(7, api.ErrNone))
}

// TestSE1Full: MaxClients sessions there may be, and no more, whatever the index.
func TestSE1Full(t *testing.T) {
	table := crowd(t)
	for _, index := range []int{api.MaxClients + 1, api.MaxIndex, 1, api.MaxClients, 30} {
		applies(t, table, index, opens(), refused(api.ErrFull))
	}
	if got := len(table.Sessions()); got != api.MaxClients {
		t.Errorf("%d sessions", got)
	}
	applies(t, table, 100, closes(30), done(30))
	applies(t, table, 31, opens(), refused(api.ErrTwice))
	applies(t, table, 101, opens(), done(101))
	applies(t, table, 31, opens(), refused(api.ErrFull))
	applies(t, table, 30, opens(), refused(api.ErrFull))
	applies(t, table, 102, asks(101, 1, add(node("r", "", 1, 0, 0))), told(101, 0, 1))
}

// TestSE1Close: what is closed is gone, with what it asked for; nothing else is.
func TestSE1Close(t *testing.T) {
	table := busy(t)
	tree := string(table.Tree().Encode())
	for _, number := range []int{0, -1, -5, 4, 6, 8, 10, 5 + 1<<32, 5 - 1<<32, api.MaxIndex, math.MinInt, math.MaxInt} {
		applies(t, table, 5, closes(number), refused(api.ErrGone))
	}
	// The index is not the session's number.
	applies(t, table, 9, closes(5), done(5))
	has(t, table, 9)
	gone(t, table, 5)
	applies(t, table, 9, closes(5), refused(api.ErrGone))
	applies(t, table, 11, session.Command{Kind: session.Close, Session: 9, Seq: 1, Order: add(node("s", "", 1, 0, 0))}, done(9))
	has(t, table)
	applies(t, table, 12, closes(9), refused(api.ErrGone))
	applies(t, session.New(), 1, closes(1), refused(api.ErrGone))
	if got := string(table.Tree().Encode()); got != tree {
		t.Errorf("The tree is %s, not %s", got, tree)
	}
}

// TestSE1Reopened: a number that is opened again knows nothing of what was asked for under it.
func TestSE1Reopened(t *testing.T) {
	table := busy(t)
	applies(t, table, 11, asks(5, 2, admit("x", "r", 1)), told(5, 1, 7+8i))
	applies(t, table, 12, closes(5), done(5))
	for _, seq := range []int{0, 1, 2, 3} {
		applies(t, table, 13, asks(5, seq, admit("x", "r", 1)), refused(api.ErrGone))
	}
	applies(t, table, 5, opens(), done(5))
	last(t, table, 5, 0, session.Reply{})
	applies(t, table, 14, asks(5, 2, admit("x", "r", 1)), refused(api.ErrGap))
	applies(t, table, 15, asks(5, 0, admit("x", "r", 1)), refused(api.ErrGap))
	// It is done: that the use is there already shows that it is not the old reply.
	applies(t, table, 16, asks(5, 1, admit("x", "r", 1)), denied(5, api.ErrTwice))
	last(t, table, 5, 1, denied(5, api.ErrTwice))
	last(t, table, 9, 0, session.Reply{})
}

package session_test

import (
	"math"
	"testing"

	"tollbar/api"
	"tollbar/order"
	"tollbar/quota"
	"tollbar/session"
)

// reads looks at an answer, and at that nothing has changed.
func reads(t *testing.T, table *session.Table, o order.Order, want order.Answer) {
	t.Helper()
	before := all(table)
	for range 2 {
		if got := table.Read(o); !sameAnswer(got, want) {
			t.Errorf("Read of %v: %v, not %v", o, got, want)
		}
	}
	if after := all(table); after != before {
		t.Errorf("Read of %v changes %s to %s", o, before, after)
	}
}

// denial is an answer of an error.
func denial(err api.Errno) order.Answer { return order.Answer{Err: int(err)} }

// orders are some of each kind, and of none, that would each do something at the table that busy makes.
func orders() []order.Order {
	l := []order.Order{
		admit("x", "r", 1), release("x"), set(node("r", "", 5, 0, 0)), add(node("s", "r", 1, 0, 0)), remove("r"), query("r"),
		{}, {Kind: 7}, {Kind: -1}, {Kind: math.MinInt}, {Kind: math.MaxInt}, {Kind: 6 + 1<<32}, {Kind: 6 + 1<<8},
	}
	for i := range l[7:] {
		l[7+i].Node, l[7+i].Use = node("r", "", 1, 1, 1), quota.Use{ID: "x", Node: "r", Amount: 1}
	}
	return l
}

// TestSE2Read: a query is answered, without a session; what changes something, and what is of no kind, is not done.
func TestSE2Read(t *testing.T) {
	table := busy(t)
	for _, o := range orders() {
		want := denial(api.ErrArg)
		if o.Kind == order.Query {
			want = order.Answer{Total: 7 + 8i}
		}
		reads(t, table, o, want)
	}
	// Also where the order would be refused.
	for _, o := range []order.Order{admit("", "s", -1), release("v"), set(node("s", "", 1, 1, 1)), add(node("r", "", 1, 1, 1)), remove("s")} {
		reads(t, table, o, denial(api.ErrArg))
	}
	for _, name := range []string{"", "s", "R", "rr", "\x00"} {
		reads(t, table, query(name), denial(api.ErrNone))
	}
	reads(t, session.New(), query("r"), denial(api.ErrNone))
	applies(t, table, 11, asks(5, 2, admit("x", "r", 3+2i)), told(5, 3+2i, 7+8i))
	reads(t, table, query("r"), order.Answer{Used: 3 + 2i, Total: 7 + 8i})
	reads(t, copied(t, table), query("r"), order.Answer{Used: 3 + 2i, Total: 7 + 8i})
	applies(t, table, 12, asks(5, 3, release("x")), done(5))
	reads(t, table, query("r"), order.Answer{Total: 7 + 8i})
	applies(t, table, 13, asks(9, 1, remove("r")), done(9))
	reads(t, table, query("r"), denial(api.ErrNone))
}

// TestSE2ReadFull: what has many sessions is read as well.
func TestSE2ReadFull(t *testing.T) {
	table := crowd(t)
	applies(t, table, 1, asks(7, 1, add(node("r", "", c(most, 3), 0, 0))), told(7, 0, c(most, 3)))
	reads(t, table, query("r"), order.Answer{Total: c(most, 3)})
}

// TestSE2Nil: of no table nothing is told.
func TestSE2Nil(t *testing.T) {
	var table *session.Table
	for _, o := range orders() {
		if got := table.Read(o); !sameAnswer(got, denial(api.ErrArg)) {
			t.Errorf("Read of %v: %v", o, got)
		}
	}
	if got := table.Tree(); got != nil {
		t.Errorf("Tree: %v", got)
	}
	if got := table.Sessions(); len(got) != 0 {
		t.Errorf("Sessions: %v", got)
	}
	if got := table.Encode(); len(got) != 0 {
		t.Errorf("Encode: %q", got)
	}
	for _, number := range []int{math.MinInt, -1, 0, 1, 5, api.MaxIndex, math.MaxInt} {
		if seq, r, err := table.Last(number); seq != 0 || !sameReply(r, session.Reply{}) || errno(err) != api.ErrArg {
			t.Errorf("Last of %d: %d, %v, %v", number, seq, r, err)
		}
	}
}

// TestSE2New: a new table has nothing, and a tree without nodes.
func TestSE2New(t *testing.T) {
	table := session.New()
	has(t, table)
	tree := table.Tree()
	if tree == nil || len(tree.Nodes()) != 0 || len(tree.Uses()) != 0 {
		t.Fatalf("Tree: %v", tree)
	}
	if got := string(tree.Encode()); got != "n0;n0;" {
		t.Errorf("Tree: %s", got)
	}
	for _, number := range []int{math.MinInt, -1, 0, 1, api.MaxIndex, math.MaxInt} {
		gone(t, table, number)
	}
	// Each one is its own.
	other := session.New()
	applies(t, table, 1, opens(), done(1))
	applies(t, table, 2, asks(1, 1, add(node("r", "", 1, 0, 0))), told(1, 0, 1))
	has(t, other)
	if got := other.Tree().Nodes(); len(got) != 0 {
		t.Errorf("Nodes: %v", got)
	}
}

// TestSE2Tree: the tree as it is, as a clone: it goes its own way, and the table goes its.
func TestSE2Tree(t *testing.T) {
	table := busy(t)
	before := all(table)
	tree, other := table.Tree(), table.Tree()
	if err := tree.AddNode(node("s", "r", 1, 0, 0)); err != nil {
		t.Errorf("AddNode: %v", err)
	}
	if err := tree.Admit(quota.Use{ID: "x", Node: "r", Amount: 2}); err != nil {
		t.Errorf("Admit: %v", err)
	}
	if err := tree.Set(node("r", "", 4, 0, 0)); err != nil {
		t.Errorf("Set: %v", err)
	}
	if after := all(table); after != before {
		t.Errorf("A clone changes %s to %s", before, after)
	}
	if got := string(other.Encode()); got != "n1;t1:rt0:n7;n8;n0;n0;n0;n0;n0;" {
		t.Errorf("The other clone is %s", got)
	}
	is := string(tree.Encode())
	applies(t, table, 11, asks(5, 2, admit("y", "r", 1)), told(5, 1, 7+8i))
	if got := string(tree.Encode()); got != is {
		t.Errorf("The table changes %s to %s", is, got)
	}
	if got := string(other.Encode()); got != "n1;t1:rt0:n7;n8;n0;n0;n0;n0;n0;" {
		t.Errorf("The table changes the other clone to %s", got)
	}
	if got := string(table.Tree().Encode()); got != "n1;t1:rt0:n7;n8;n0;n0;n0;n0;n1;t1:yt1:rn1;n0;" {
		t.Errorf("The tree is %s", got)
	}
	// So does a tree that goes on where the table's nodes are all gone.
	applies(t, table, 12, asks(5, 3, release("y")), done(5))
	applies(t, table, 13, asks(5, 4, remove("r")), done(5))
	if err := other.RemoveNode("r"); err != nil {
		t.Errorf("RemoveNode: %v", err)
	}
}

// TestSE2Sessions: ascending, in whatever order they came, as those went that are gone.
func TestSE2Sessions(t *testing.T) {
	numbers := []int{1, 2, 9, 10, 11, 90, 100, 1 << 31, 1 << 32, api.MaxIndex - 1, api.MaxIndex}
	for turn := range numbers {
		table := session.New()
		for i := range numbers {
			// Seven goes through all eleven.
			number := numbers[(i*7+turn)%len(numbers)]
			applies(t, table, number, opens(), done(number))
		}
		has(t, table, numbers...)
		applies(t, table, 5, closes(numbers[turn]), done(numbers[turn]))
		var left []int
		for i, number := range numbers {
			if i != turn {
				left = append(left, number)
			}
		}
		has(t, table, left...)
	}
}

// TestSE2Last: of a session that asked for nothing yet, for one thing, for more; of those that are not there.
func TestSE2Last(t *testing.T) {
	table := session.New()
	applies(t, table, 5, opens(), done(5))
	applies(t, table, 6, opens(), done(6))
	last(t, table, 5, 0, session.Reply{})
	applies(t, table, 7, asks(5, 1, add(node("r", "", 4+5i, 0, 0))), told(5, 0, 4+5i))
	last(t, table, 5, 1, told(5, 0, 4+5i))
	last(t, table, 6, 0, session.Reply{})
	applies(t, table, 8, asks(5, 2, admit("x", "r", 9)), denied(5, api.ErrQuota))
	last(t, table, 5, 2, denied(5, api.ErrQuota))
	for _, number := range []int{math.MinInt, -6, -5, -1, 0, 1, 4, 7, 5 + 1<<32, api.MaxIndex, math.MaxInt} {
		gone(t, table, number)
	}
	applies(t, table, 9, closes(5), done(5))
	gone(t, table, 5)
	last(t, table, 6, 0, session.Reply{})
}

package order_test

import (
	"fmt"
	"math"
	"strings"
	"testing"

	"tollbar/api"
	"tollbar/order"
	"tollbar/quota"
)

const most = api.MaxAmount

// none stands for no error where a number of one is asked for.
const none = api.Errno(0)

// c is an amount of two numbers, whatever package pair says of them.
func c(a, b int) complex128 { return complex(float64(a), float64(b)) }

// nones are complex numbers that are no amounts.
func nones() []complex128 {
	below := math.Copysign(0, -1)
	l := []complex128{complex(below, below)}
	for _, p := range []float64{-1, 0.5, below, most + 1, math.Inf(1), math.Inf(-1), math.NaN()} {
		l = append(l, complex(p, 1), complex(1, p))
	}
	return l
}

// kinds are all that something may be asked for by.
func kinds() []int {
	return []int{order.Admit, order.Release, order.SetQuota, order.AddNode, order.RemoveNode, order.Query}
}

// noKinds are numbers that are no kinds: about the bounds, and those that a smaller number would have for one.
func noKinds() []int {
	l := []int{math.MinInt, -7, -6, -1, 0, 7, 8, math.MaxInt}
	for _, kind := range kinds() {
		l = append(l, kind+1<<8, kind+1<<16, kind+1<<32, kind-1<<8, kind-1<<32)
	}
	return l
}

// badNames are texts that are no names.
func badNames() []string {
	return []string{"", " ", "a b", "a\n", "\x00", "\x7f", "é", "\xff", strings.Repeat("n", api.MaxLabel+1)}
}

// same tells whether two amounts are the same, the signs of noughts too.
func same(a, b complex128) bool {
	return math.Float64bits(real(a)) == math.Float64bits(real(b)) && math.Float64bits(imag(a)) == math.Float64bits(imag(b))
}

// sameAnswer tells the same of two answers.
func sameAnswer(a, b order.Answer) bool {
	return a.Err == b.Err && same(a.Used, b.Used) && same(a.Total, b.Total)
}

// done is what is answered without an error, with a node beside.
func done(used, total complex128) order.Answer { return order.Answer{Used: used, Total: total} }

// refused is what is answered with an error.
func refused(err api.Errno) order.Answer { return order.Answer{Err: int(err)} }

// node is a node of the amounts in short form.
func node(name, parent string, own, borrow, lend complex128) quota.Node {
	return quota.Node{Name: name, Parent: parent, Own: own, Borrow: borrow, Lend: lend}
}

// use is a use.
func use(id, at string, amount complex128) quota.Use {
	return quota.Use{ID: id, Node: at, Amount: amount}
}

// The orders below have, where their kind asks for nothing, what would be refused, or would tell of another node.

func admit(u quota.Use) order.Order {
	return order.Order{Kind: order.Admit, Node: node("r", "?", -1, -1, -1), Use: u}
}

func release(id string) order.Order {
	return order.Order{Kind: order.Release, Node: node("r", "?", -1, -1, -1), Use: use(id, "?", -1)}
}

func set(n quota.Node) order.Order {
	return order.Order{Kind: order.SetQuota, Node: n, Use: use("", "r", -1)}
}

func add(n quota.Node) order.Order {
	return order.Order{Kind: order.AddNode, Node: n, Use: use("", "r", -1)}
}

func remove(name string) order.Order {
	return order.Order{Kind: order.RemoveNode, Node: node(name, "?", -1, -1, -1), Use: use("", "r", -1)}
}

func query(name string) order.Order {
	return order.Order{Kind: order.Query, Node: node(name, "?", -1, -1, -1), Use: use("", "r", -1)}
}

// told is all that there is in a tree: its bytes, and what is worked out of them.
func told(q *quota.Tree) string {
	var b strings.Builder
	b.Write(q.Encode())
	for _, name := range q.Nodes() {
		used, err := q.Used(name)
		total, err2 := q.Total(name)
		fmt.Fprintln(&b, name, used, err, total, err2)
	}
	return b.String()
}

// does looks at what is answered, by a tree and by its clone, and at what is there behind it: with an error nothing has changed.
func does(t *testing.T, q *quota.Tree, o order.Order, want order.Answer) {
	t.Helper()
	before, clone := told(q), q.Clone()
	if got := order.Do(q, o); !sameAnswer(got, want) {
		t.Errorf("Do of %v: %v, not %v", o, got, want)
	}
	after := told(q)
	if got := order.Do(clone, o); !sameAnswer(got, want) {
		t.Errorf("Do of %v, by a clone: %v, not %v", o, got, want)
	}
	if other := told(clone); other != after {
		t.Errorf("Do of %v: the tree is %s, its clone %s", o, after, other)
	}
	if (want.Err != 0 || order.Reads(o)) && after != before {
		t.Errorf("Do of %v changes %s to %s", o, before, after)
	}
}

// example is the tree of chapter 6's example.
func example(t *testing.T) *quota.Tree {
	t.Helper()
	q := quota.New()
	does(t, q, add(node("r", "", 2+2i, 0, 0)), done(0, 2+2i))
	does(t, q, add(node("a", "r", 4+4i, 9+9i, 0)), done(0, 4+4i))
	does(t, q, add(node("b", "r", 4+4i, 0, 1+1i)), done(0, 4+4i))
	return q
}

// crowd is a tree of MaxNodes nodes with MaxUses uses.
func crowd(t *testing.T) *quota.Tree {
	t.Helper()
	q := quota.New()
	for i := range api.MaxNodes {
		n := node(fmt.Sprintf("n%d", i), "", c(i, 9), 5, 1i)
		if i > 0 {
			n.Parent = fmt.Sprintf("n%d", (i-1)/2)
		}
		if err := q.AddNode(n); err != nil {
			t.Fatalf("AddNode of %v: %v", n, err)
		}
	}
	for i := range api.MaxUses {
		u := use(fmt.Sprintf("u%d", i), fmt.Sprintf("n%d", i%api.MaxNodes), c(0, i%3))
		if err := q.Admit(u); err != nil {
			t.Fatalf("Admit of %v: %v", u, err)
		}
	}
	return q
}

// TestExample: the document's example.
func TestExample(t *testing.T) {
	does(t, quota.New(), order.Order{Kind: 4, Node: quota.Node{Name: "r", Own: 5 + 5i}}, order.Answer{Used: 0, Total: 5 + 5i})
}

// TestOR1Kinds: the numbers of the kinds.
func TestOR1Kinds(t *testing.T) {
	for i, kind := range kinds() {
		if kind != i+1 {
			t.Errorf("Kind %d is %d", i+1, kind)
		}
	}
}

// TestOR1Answers: what each kind does, and what it tells of which node.
func TestOR1Answers(t *testing.T) {
	q := example(t)
	steps := []struct {
		o    order.Order
		want order.Answer
	}{
		{query("r"), done(0, 10+10i)},
		{admit(use("x", "a", 3+2i)), done(3+2i, 4+4i)},
		{admit(use("y", "a", 4+5i)), done(7+7i, 4+4i)},
		{admit(use("z", "r", 0)), done(7+7i, 10+10i)},
		{admit(use("w", "b", 1+2i)), done(1+2i, 4+4i)},
		{query("r"), done(8+9i, 10+10i)},
		{query("a"), done(7+7i, 4+4i)},
		{query("b"), done(1+2i, 4+4i)},
		{set(node("r", "?", 3+2i, 1, 1)), done(8+9i, 11+10i)},
		{set(node("a", "", 5+4i, 8+9i, 0)), done(7+7i, 5+4i)},
		{add(node("c", "b", 6+7i, 0, 6+7i)), done(0, 6+7i)},
		{query("b"), done(1+2i, 10+11i)},
		{query("r"), done(8+9i, 18+17i)},
		{admit(use("v", "c", 1+1i)), done(1+1i, 6+7i)},
		{release("y"), done(0, 0)},
		{query("a"), done(3+2i, 5+4i)},
		{release("v"), done(0, 0)},
		{query("r"), done(4+4i, 18+17i)},
		{remove("c"), done(0, 0)},
		{query("r"), done(4+4i, 12+10i)},
		{add(node("s", "", 0, 7, 7)), done(0, 0)},
		{query("s"), done(0, 0)},
		{query("c"), refused(api.ErrNone)},
	}
	for _, step := range steps {
		does(t, q, step.o, step.want)
	}
	if want := "n4;t1:at1:rn5;n4;n8;n9;n0;n0;t1:bt1:rn4;n4;n0;n0;n1;n1;t1:rt0:n3;n2;n1;n0;n1;n0;t1:st0:n0;n0;n7;n0;n7;n0;" +
		"n3;t1:wt1:bn1;n2;t1:xt1:an3;n2;t1:zt1:rn0;n0;"; string(q.Encode()) != want {
		t.Errorf("The tree is %s, not %s", q.Encode(), want)
	}
}

// TestOR1Bounds: what is as much as can be is told as it is.
func TestOR1Bounds(t *testing.T) {
	q := quota.New()
	all, long := c(most, most), strings.Repeat("n", api.MaxLabel)
	does(t, q, add(node(long, "", all, all, all)), done(0, all))
	does(t, q, admit(use(long, long, all)), done(all, all))
	does(t, q, query(long), done(all, all))
	does(t, q, release(long), done(0, 0))
	does(t, q, set(node(long, long, 0, 0, 0)), done(0, 0))
	does(t, q, remove(long), done(0, 0))
}

// TestOR1AdmitErrors: each error of Admit.
func TestOR1AdmitErrors(t *testing.T) {
	q := example(t)
	does(t, q, admit(use("x", "a", 1)), done(1, 4+4i))
	for _, name := range badNames() {
		does(t, q, admit(use(name, "a", 1)), refused(api.ErrName))
		does(t, q, admit(use("y", name, 1)), refused(api.ErrNone))
	}
	for _, bad := range nones() {
		does(t, q, admit(use("y", "a", bad)), refused(api.ErrArg))
		does(t, q, admit(use("", "a", bad)), refused(api.ErrName))
	}
	does(t, q, admit(use("x", "b", 1)), refused(api.ErrTwice))
	does(t, q, admit(use("y", "c", 1)), refused(api.ErrNone))
	does(t, q, admit(use("y", "a", 7+7i)), refused(api.ErrQuota))
	does(t, q, admit(use("y", "a", most)), refused(api.ErrOver))
	does(t, crowd(t), admit(use("y", "n0", 0)), refused(api.ErrFull))
}

// TestOR1ReleaseErrors: the error of Release.
func TestOR1ReleaseErrors(t *testing.T) {
	q := example(t)
	does(t, q, admit(use("x", "a", 1)), done(1, 4+4i))
	for _, id := range append(badNames(), "y", "a") {
		does(t, q, release(id), refused(api.ErrNone))
	}
	does(t, q, release("x"), done(0, 0))
	does(t, q, release("x"), refused(api.ErrNone))
}

// TestOR1SetErrors: each error of Set.
func TestOR1SetErrors(t *testing.T) {
	q := example(t)
	does(t, q, admit(use("x", "a", 7)), done(7, 4+4i))
	for _, name := range append(badNames(), "c", "x") {
		does(t, q, set(node(name, "", 1, 1, 1)), refused(api.ErrNone))
	}
	for _, bad := range nones() {
		does(t, q, set(node("a", "", bad, 1, 1)), refused(api.ErrArg))
		does(t, q, set(node("a", "", 1, bad, 1)), refused(api.ErrArg))
		does(t, q, set(node("c", "", 1, 1, bad)), refused(api.ErrArg))
	}
	does(t, q, set(node("a", "", most-5, 9, 0)), refused(api.ErrOver))
	does(t, q, set(node("a", "", 4, 2, 0)), refused(api.ErrUsed))
	does(t, q, set(node("b", "", 4, 0, 0)), refused(api.ErrUsed))
}

// TestOR1AddErrors: each error of AddNode.
func TestOR1AddErrors(t *testing.T) {
	q := example(t)
	for _, name := range badNames() {
		does(t, q, add(node(name, "r", 1, 1, 1)), refused(api.ErrName))
		if name != "" {
			does(t, q, add(node("c", name, 1, 1, 1)), refused(api.ErrNone))
		}
	}
	for _, bad := range nones() {
		does(t, q, add(node("c", "r", bad, 1, 1)), refused(api.ErrArg))
		does(t, q, add(node("c", "r", 1, bad, 1)), refused(api.ErrArg))
		does(t, q, add(node("c", "r", 1, 1, bad)), refused(api.ErrArg))
		does(t, q, add(node("", "r", bad, bad, bad)), refused(api.ErrName))
	}
	does(t, q, add(node("a", "r", 1, 1, 1)), refused(api.ErrTwice))
	does(t, q, add(node("c", "d", 1, 1, 1)), refused(api.ErrNone))
	does(t, q, add(node("c", "a", 1i*(most-9), 1, 1)), refused(api.ErrOver))
	does(t, crowd(t), add(node("m", "n9", 0, 0, 0)), refused(api.ErrFull))
}

// TestOR1RemoveErrors: each error of RemoveNode.
func TestOR1RemoveErrors(t *testing.T) {
	q := example(t)
	does(t, q, admit(use("x", "a", 7)), done(7, 4+4i))
	for _, name := range append(badNames(), "c", "x") {
		does(t, q, remove(name), refused(api.ErrNone))
	}
	does(t, q, remove("r"), refused(api.ErrUsed)) // it has children
	does(t, q, remove("a"), refused(api.ErrUsed)) // something uses it
	does(t, q, remove("b"), refused(api.ErrUsed)) // what it lends is used
	does(t, q, release("x"), done(0, 0))
	does(t, q, remove("b"), done(0, 0))
	does(t, q, remove("b"), refused(api.ErrNone))
}

// TestOR1QueryErrors: the error of a node that is not there.
func TestOR1QueryErrors(t *testing.T) {
	q := example(t)
	does(t, q, admit(use("x", "a", 7)), done(7, 4+4i))
	for _, name := range append(badNames(), "c", "x", "A", "aa") {
		does(t, q, query(name), refused(api.ErrNone))
	}
}

// all are orders of all kinds, and of none, that would each do something at the example's tree, were there a tree and a kind.
func all() []order.Order {
	l := []order.Order{
		admit(use("x", "a", 1)), release("w"), set(node("a", "", 4, 9, 0)), add(node("c", "r", 1, 1, 1)), remove("b"), query("r"),
	}
	for _, o := range l {
		for _, kind := range noKinds() {
			o.Kind = kind
			l = append(l, o)
		}
	}
	return l
}

// TestOR1Nil: without a tree ErrArg is answered, whatever is asked for.
func TestOR1Nil(t *testing.T) {
	for _, o := range append(all(), add(quota.Node{}), admit(quota.Use{}), query(""), order.Order{}) {
		if got := order.Do(nil, o); !sameAnswer(got, refused(api.ErrArg)) {
			t.Errorf("Do of %v without a tree: %v", o, got)
		}
	}
}

// TestOR1NoKind: what is asked for by no kind is answered ErrArg, whatever else it has.
func TestOR1NoKind(t *testing.T) {
	q := example(t)
	does(t, q, admit(use("w", "a", 1)), done(1, 4+4i))
	for _, o := range all() {
		if o.Kind < order.Admit || o.Kind > order.Query {
			does(t, q, o, refused(api.ErrArg))
			does(t, quota.New(), o, refused(api.ErrArg))
		}
	}
	does(t, q, order.Order{}, refused(api.ErrArg))
}

// TestRule1Zero: a tree that no call answered is one without nodes.
func TestRule1Zero(t *testing.T) {
	for _, o := range all() {
		if got, want := order.Do(&quota.Tree{}, o), order.Do(quota.New(), o); !sameAnswer(got, want) {
			t.Errorf("Do of %v, of a tree that no call answered: %v, not %v", o, got, want)
		}
	}
	q := &quota.Tree{}
	does(t, q, add(node("r", "", 5+5i, 0, 0)), done(0, 5+5i))
	does(t, q, admit(use("x", "r", 1+2i)), done(1+2i, 5+5i))
}

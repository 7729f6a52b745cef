package quota_test

import (
	"bytes"
	"errors"
	"fmt"
	"math"
	"strings"
	"testing"

	"tollbar/api"
	"tollbar/quota"
)

const most = api.MaxAmount

// none stands for no error where a number of one is asked for.
const none = api.Errno(0)

// c is an amount of two numbers, whatever package pair says of them.
func c(a, b int) complex128 { return complex(float64(a), float64(b)) }

// nones are complex numbers that are no amounts.
func nones() []complex128 {
	below := math.Copysign(0, -1)
	l := []complex128{complex(below, below)}
	for _, p := range []float64{-1, 0.5, below, most + 1, math.Inf(1), math.Inf(-1), math.NaN()} {
		l = append(l, complex(p, 1), complex(1, p))
	}
	return l
}

// number is an error's number.
func number(err error) api.Errno {
	var n api.Errno
	if err != nil && !errors.As(err, &n) {
		return -1
	}
	return n
}

// answers looks at the error of a call.
func answers(t *testing.T, what string, err error, want api.Errno) {
	t.Helper()
	if number(err) != want || (err == nil) != (want == none) {
		t.Errorf("%s: %v, not %d", what, err, want)
	}
}

// refuses looks at the error of a call, and at that nothing has changed.
func refuses(t *testing.T, q *quota.Tree, what string, want api.Errno, call func() error) {
	t.Helper()
	before, other := q.Encode(), told(q)
	answers(t, what, call(), want)
	if after := q.Encode(); !bytes.Equal(after, before) {
		t.Errorf("%s: %s, not %s", what, after, before)
	}
	if now := told(q); now != other {
		t.Errorf("%s: %s, not %s", what, now, other)
	}
}

// told is all that a tree's calls tell of it, but its bytes and its room.
func told(q *quota.Tree) string {
	var b strings.Builder
	for _, name := range q.Nodes() {
		n, err := q.Node(name)
		total, err2 := q.Total(name)
		used, err3 := q.Used(name)
		fmt.Fprintln(&b, n, err, total, err2, used, err3)
	}
	fmt.Fprintln(&b, q.Uses())
	return b.String()
}

// node is a node of the amounts in short form.
func node(name, parent string, own, borrow, lend complex128) quota.Node {
	return quota.Node{Name: name, Parent: parent, Own: own, Borrow: borrow, Lend: lend}
}

// use is a use.
func use(id, at string, amount complex128) quota.Use {
	return quota.Use{ID: id, Node: at, Amount: amount}
}

// tree is a tree of nodes.
func tree(t *testing.T, nodes ...quota.Node) *quota.Tree {
	t.Helper()
	q := quota.New()
	for _, n := range nodes {
		if err := q.AddNode(n); err != nil {
			t.Fatalf("AddNode of %v: %v", n, err)
		}
	}
	return q
}

// admit lets something be used that must be.
func admit(t *testing.T, q *quota.Tree, uses ...quota.Use) {
	t.Helper()
	for _, u := range uses {
		if err := q.Admit(u); err != nil {
			t.Fatalf("Admit of %v: %v", u, err)
		}
	}
}

// totals looks at a node's total and used.
func totals(t *testing.T, q *quota.Tree, name string, total, used complex128) {
	t.Helper()
	if got, err := q.Total(name); got != total || err != nil {
		t.Errorf("Total of %s: %v, %v, not %v", name, got, err, total)
	}
	if got, err := q.Used(name); got != used || err != nil {
		t.Errorf("Used of %s: %v, %v, not %v", name, got, err, used)
	}
}

// room looks at a node's room, and at Admit of as much and of one more, of each kind.
func room(t *testing.T, q *quota.Tree, name string, want complex128) {
	t.Helper()
	got, err := q.Room(name)
	if got != want || err != nil || math.Signbit(real(got)) || math.Signbit(imag(got)) {
		t.Errorf("Room of %s: %v, %v, not %v", name, got, err, want)
		return
	}
	fits := func(amount complex128) bool { return q.Clone().Admit(use("~fresh~", name, amount)) == nil }
	first, second := complex(real(want), 0), complex(0, imag(want))
	if len(q.Uses()) < api.MaxUses && (!fits(first) || !fits(second)) {
		t.Errorf("Room of %s: %v, of which a part does not fit", name, want)
	}
	if fits(first+1) || fits(second+1i) {
		t.Errorf("Room of %s: %v, and one more of a part fits", name, want)
	}
}

// example is the tree of the chapter's example.
func example(t *testing.T) *quota.Tree {
	t.Helper()
	return tree(t, node("r", "", 2+2i, 0, 0), node("a", "r", 4+4i, 9+9i, 0), node("b", "r", 4+4i, 0, 1+1i))
}

// TestExample: what the chapter's example tells.
func TestExample(t *testing.T) {
	q := example(t)
	totals(t, q, "r", 10+10i, 0)
	totals(t, q, "a", 4+4i, 0)
	totals(t, q, "b", 4+4i, 0)
	room(t, q, "a", 7+7i)
	room(t, q, "b", 4+4i)
	// What b claims is not there for the root itself, nor is what a claims.
	room(t, q, "r", 3+3i)
	refuses(t, q, "Admit of 8/8", api.ErrQuota, func() error { return q.Admit(use("x", "a", 8+8i)) })
	refuses(t, q, "Admit of 8/7", api.ErrQuota, func() error { return q.Admit(use("x", "a", 8+7i)) })
	refuses(t, q, "Admit of 7/8", api.ErrQuota, func() error { return q.Admit(use("x", "a", 7+8i)) })
	admit(t, q, use("y", "b", 3+3i))
	room(t, q, "a", 7+7i)
	admit(t, q, use("x", "a", 7+7i))
	totals(t, q, "r", 10+10i, 10+10i)
	room(t, q, "b", 0)
}

// TestNil: a nil tree answers ErrArg, and nothing.
func TestNil(t *testing.T) {
	var q *quota.Tree
	for _, n := range []quota.Node{{}, node("a", "", 1, 1, 1), node("", "r", -1, 0, 0)} {
		answers(t, "AddNode", q.AddNode(n), api.ErrArg)
		answers(t, "Set", q.Set(n), api.ErrArg)
	}
	for _, name := range []string{"", "a", " "} {
		answers(t, "RemoveNode", q.RemoveNode(name), api.ErrArg)
		answers(t, "Admit", q.Admit(use(name, name, 1)), api.ErrArg)
		answers(t, "Release", q.Release(name), api.ErrArg)
		n, err := q.Node(name)
		answers(t, "Node", err, api.ErrArg)
		used, err := q.Used(name)
		answers(t, "Used", err, api.ErrArg)
		total, err := q.Total(name)
		answers(t, "Total", err, api.ErrArg)
		left, err := q.Room(name)
		answers(t, "Room", err, api.ErrArg)
		if n != (quota.Node{}) || used != 0 || total != 0 || left != 0 {
			t.Errorf("Of no tree: %v, %v, %v, %v", n, used, total, left)
		}
	}
	if q.Nodes() != nil || q.Uses() != nil || q.Clone() != nil || q.Encode() != nil {
		t.Error("A nil tree tells something")
	}
}

// TestNew: a tree without nodes has nothing.
func TestNew(t *testing.T) {
	q := quota.New()
	if len(q.Nodes()) != 0 || len(q.Uses()) != 0 || string(q.Encode()) != "n0;n0;" {
		t.Errorf("A new tree: %v, %v, %s", q.Nodes(), q.Uses(), q.Encode())
	}
	if other := quota.New(); other == q {
		t.Error("New answers the same tree twice")
	}
	if err := q.AddNode(node("a", "", 1, 0, 0)); err != nil || len(quota.New().Nodes()) != 0 {
		t.Error("Two new trees share a node")
	}
}

// TestZero: a tree that New did not make is one without nodes, too.
func TestZero(t *testing.T) {
	for _, q := range []*quota.Tree{{}, new(quota.Tree).Clone()} {
		refuses(t, q, "RemoveNode", api.ErrNone, func() error { return q.RemoveNode("r") })
		refuses(t, q, "Set", api.ErrNone, func() error { return q.Set(node("r", "", 0, 0, 0)) })
		refuses(t, q, "Admit", api.ErrNone, func() error { return q.Admit(use("x", "r", 0)) })
		refuses(t, q, "Release", api.ErrNone, func() error { return q.Release("x") })
		if got := string(q.Encode()); got != "n0;n0;" {
			t.Errorf("Encode: %s", got)
		}
		answers(t, "AddNode", q.AddNode(node("r", "", 2, 0, 0)), none)
		admit(t, q, use("x", "r", 1))
		totals(t, q, "r", 2, 1)
	}
}

package quota_test

import (
	"fmt"
	"strings"
	"testing"

	"tollbar/api"
	"tollbar/quota"
)

// goodNames are names, and badNames are none.
func goodNames() []string {
	var all strings.Builder
	for b := 33; b <= 126; b++ {
		all.WriteByte(byte(b))
	}
	s := all.String()
	return []string{"a", "!", "~", "0", "/", s[:api.MaxLabel], s[len(s)-api.MaxLabel:], strings.Repeat("!", api.MaxLabel), strings.Repeat("~", api.MaxLabel)}
}

func badNames() []string {
	l := []string{"", strings.Repeat("a", api.MaxLabel+1), strings.Repeat("a", 1000), "é", "\xff", "\x00", "a\n"}
	for _, bad := range []string{" ", "\x7f", "\x1f", "\x80"} {
		l = append(l, bad, bad+"a", "a"+bad, "a"+bad+"b", strings.Repeat("a", api.MaxLabel-1)+bad)
	}
	return l
}

// full is a tree of MaxNodes nodes: one root, and its children.
func full(t *testing.T) *quota.Tree {
	t.Helper()
	q := tree(t, node("r", "", 0, 0, 0))
	for i := 1; i < api.MaxNodes; i++ {
		if err := q.AddNode(node(fmt.Sprintf("n%d", i), "r", 1i, 0, 0)); err != nil {
			t.Fatalf("AddNode %d: %v", i, err)
		}
	}
	return q
}

// TestQU1AddNode: a node is there as it was told.
func TestQU1AddNode(t *testing.T) {
	q := quota.New()
	nodes := []quota.Node{
		node("r", "", 1+2i, 3+4i, 5+6i), node("z", "", 0, 0, 0), node("a", "r", most+most*1i-1-2i, most+most*1i, most+most*1i),
		node("b", "a", 0, 7, 8i), node("c", "a", 0, 0, 0),
	}
	for i, n := range nodes {
		if err := q.AddNode(n); err != nil {
			t.Fatalf("AddNode of %v: %v", n, err)
		}
		for _, is := range nodes[:i+1] {
			if got, err := q.Node(is.Name); got != is || err != nil {
				t.Errorf("Node %s: %v, %v, not %v", is.Name, got, err, is)
			}
		}
	}
	totals(t, q, "r", most+most*1i, 0)
	totals(t, q, "a", most+most*1i-1-2i, 0)
	totals(t, q, "b", 0, 0)
	totals(t, q, "z", 0, 0)
}

// TestQU1Names: what is a name, and what is none.
func TestQU1Names(t *testing.T) {
	q := quota.New()
	for _, name := range goodNames() {
		if err := q.AddNode(node(name, "", 1, 0, 0)); err != nil {
			t.Errorf("AddNode of %q: %v", name, err)
		}
		if n, err := q.Node(name); n.Name != name || err != nil {
			t.Errorf("Node %q: %v, %v", name, n, err)
		}
	}
	for _, name := range badNames() {
		refuses(t, q, fmt.Sprintf("AddNode of %q", name), api.ErrName, func() error { return q.AddNode(node(name, "", 1, 0, 0)) })
		refuses(t, q, fmt.Sprintf("RemoveNode of %q", name), api.ErrNone, func() error { return q.RemoveNode(name) })
		refuses(t, q, fmt.Sprintf("Set of %q", name), api.ErrNone, func() error { return q.Set(node(name, "", 1, 0, 0)) })
		if name != "" {
			refuses(t, q, fmt.Sprintf("AddNode under %q", name), api.ErrNone, func() error { return q.AddNode(node("x", name, 1, 0, 0)) })
		}
	}
}

// TestQU1Amounts: what is no amount is refused, whichever it is.
func TestQU1Amounts(t *testing.T) {
	q := tree(t, node("r", "", 9, 9, 9), node("a", "r", 1, 1, 1))
	for _, bad := range nones() {
		for i, n := range []quota.Node{node("", "r", bad, 1, 1), node("", "r", 1, bad, 1), node("", "r", 1, 1, bad), node("", "", bad, bad, bad)} {
			n.Name = "x"
			refuses(t, q, fmt.Sprintf("AddNode %d with %v", i, bad), api.ErrArg, func() error { return q.AddNode(n) })
			n.Name = "a"
			refuses(t, q, fmt.Sprintf("Set %d with %v", i, bad), api.ErrArg, func() error { return q.Set(n) })
		}
	}
}

// TestQU1Parents: none, one that is there, one that is not, the node itself, and names that are near by.
func TestQU1Parents(t *testing.T) {
	q := tree(t, node("r", "", 1, 0, 0), node("s", "", 2, 0, 0), node("a", "r", 4, 0, 0))
	for _, parent := range []string{"x", "R", "rr", "a ", " ", "b"} {
		refuses(t, q, "AddNode under "+parent, api.ErrNone, func() error { return q.AddNode(node("b", parent, 1, 0, 0)) })
	}
	refuses(t, q, "AddNode of what is there, under itself", api.ErrTwice, func() error { return q.AddNode(node("a", "a", 1, 0, 0)) })
	refuses(t, q, "AddNode of what is there, elsewhere", api.ErrTwice, func() error { return q.AddNode(node("a", "", 1, 0, 0)) })
	totals(t, q, "r", 5, 0)
	totals(t, q, "s", 2, 0)
	if err := q.AddNode(node("b", "s", 8, 0, 0)); err != nil {
		t.Errorf("AddNode: %v", err)
	}
	totals(t, q, "r", 5, 0)
	totals(t, q, "s", 10, 0)
}

// TestQU1AddOrder: which error is told where all behind it apply too.
func TestQU1AddOrder(t *testing.T) {
	q := full(t)
	if err := q.Set(node("r", "", most, 0, 0)); err != nil {
		t.Fatalf("Set: %v", err)
	}
	calls := []struct {
		n    quota.Node
		want api.Errno
	}{
		{node("", "x", -1, 0, 0), api.ErrName},
		{node("r\n", "x", -1, 0, 0), api.ErrName},
		{node("n1", "x", 1, -1, 0), api.ErrArg},
		{node("n1", "x", most+1, 0, 0), api.ErrArg},
		{node("n1", "x", 1, 0, 0), api.ErrTwice},
		{node("n1", "r", 1, 0, 0), api.ErrTwice},
		{node("new", "x", 1, 0, 0), api.ErrNone},
		{node("new", "new", 1, 0, 0), api.ErrNone},
		{node("new", "r", 1, 0, 0), api.ErrFull},
		{node("new", "", 1, 0, 0), api.ErrFull},
	}
	for _, call := range calls {
		refuses(t, q, fmt.Sprintf("AddNode of %v", call.n), call.want, func() error { return q.AddNode(call.n) })
	}
	if err := q.RemoveNode("n7"); err != nil {
		t.Fatalf("RemoveNode: %v", err)
	}
	refuses(t, q, "AddNode of too much", api.ErrOver, func() error { return q.AddNode(node("new", "r", 1, 0, 0)) })
	if err := q.AddNode(node("new", "r", 1i, 0, 0)); err != nil {
		t.Errorf("AddNode: %v", err)
	}
	refuses(t, q, "AddNode of one too many", api.ErrFull, func() error { return q.AddNode(node("newer", "r", 1i, 0, 0)) })
}

// TestQU1MaxNodes: so many nodes there are at most, however they stand.
func TestQU1MaxNodes(t *testing.T) {
	q := full(t)
	if n := len(q.Nodes()); n != api.MaxNodes {
		t.Fatalf("%d nodes", n)
	}
	totals(t, q, "r", (api.MaxNodes-1)*1i, 0)
	refuses(t, q, "AddNode", api.ErrFull, func() error { return q.AddNode(node("x", "", 0, 0, 0)) })
	chain := quota.New()
	parent := ""
	for i := range api.MaxNodes {
		name := fmt.Sprintf("n%d", api.MaxNodes-i)
		if err := chain.AddNode(node(name, parent, 1+2i, most, 0)); err != nil {
			t.Fatalf("AddNode %d: %v", i, err)
		}
		parent = name
	}
	totals(t, chain, "n256", 256+512i, 0)
	totals(t, chain, "n1", 1+2i, 0)
	refuses(t, chain, "AddNode", api.ErrFull, func() error { return chain.AddNode(node("x", "n1", 0, 0, 0)) })
	// Of the kind that they may borrow all is there, as what nobody uses is claimed once at the most.
	room(t, chain, "n1", 256+2i)
	room(t, chain, "n2", 256+2i)
	room(t, chain, "n256", 1+2i)
}

// TestQU1Over: a total may come to MaxAmount, in each part, and to no more, at the node, at its parent, and far above it.
func TestQU1Over(t *testing.T) {
	for _, kind := range []complex128{1, 1i} {
		q := tree(t, node("r", "", kind, 0, 0), node("s", "r", kind, 0, 0), node("a", "s", kind, 0, 0), node("b", "a", (most-3)*kind, 0, 0), node("z", "", most*kind, 0, 0))
		totals(t, q, "r", most*kind, 0)
		for _, parent := range []string{"r", "s", "a", "b", "z"} {
			refuses(t, q, "AddNode under "+parent, api.ErrOver, func() error { return q.AddNode(node("x", parent, kind, 0, 0)) })
			refuses(t, q, "AddNode under "+parent, api.ErrOver, func() error { return q.AddNode(node("x", parent, most*(1+1i), 0, 0)) })
		}
		for _, n := range []quota.Node{node("r", "", 2*kind, 0, 0), node("s", "", 2*kind, 0, 0), node("a", "", most*kind, 0, 0), node("b", "", (most-2)*kind, 0, 0)} {
			refuses(t, q, "Set "+n.Name, api.ErrOver, func() error { return q.Set(n) })
		}
		other := complex(imag(kind), real(kind))
		for _, parent := range []string{"r", "s", "a", "b", "z"} {
			if err := q.Clone().AddNode(node("x", parent, most*other, most*(1+1i), most*(1+1i))); err != nil {
				t.Errorf("AddNode of the other kind under %s: %v", parent, err)
			}
			if err := q.Clone().AddNode(node("x", parent, 0, most*(1+1i), most*(1+1i))); err != nil {
				t.Errorf("AddNode of nothing under %s: %v", parent, err)
			}
		}
		if err := q.Set(node("b", "", (most-3)*kind+most*other, 0, 0)); err != nil {
			t.Errorf("Set of the other kind: %v", err)
		}
		totals(t, q, "r", most*(1+1i), 0)
	}
}

// TestQU1Apart: roots have nothing in common.
func TestQU1Apart(t *testing.T) {
	q := tree(t, node("r", "", most, 0, 0), node("s", "", most, 0, 0), node("a", "s", 0, 5, 0))
	admit(t, q, use("x", "r", most), use("y", "a", 5))
	totals(t, q, "r", most, most)
	totals(t, q, "s", most, 5)
	room(t, q, "r", 0)
	room(t, q, "s", most-5)
	room(t, q, "a", 0)
}

// TestQU1RemoveNode: a node that is not there, has children, or is used stays; one that is gone leaves nothing.
func TestQU1RemoveNode(t *testing.T) {
	q := tree(t, node("r", "", 1+1i, 0, 0), node("a", "r", 2+2i, 0, 0), node("b", "a", 4+4i, 0, 0), node("c", "a", 8+8i, 0, 0))
	admit(t, q, use("nought", "c", 0), use("x", "b", 1))
	for _, name := range []string{"x", "", "nought", "R"} {
		refuses(t, q, "RemoveNode of "+name, api.ErrNone, func() error { return q.RemoveNode(name) })
	}
	for _, name := range []string{"r", "a", "b", "c"} {
		refuses(t, q, "RemoveNode of "+name, api.ErrUsed, func() error { return q.RemoveNode(name) })
	}
	answers(t, "Release", q.Release("nought"), none)
	answers(t, "RemoveNode of c", q.RemoveNode("c"), none)
	totals(t, q, "r", 7+7i, 1)
	totals(t, q, "a", 6+6i, 1)
	refuses(t, q, "RemoveNode again", api.ErrNone, func() error { return q.RemoveNode("c") })
	refuses(t, q, "RemoveNode of a", api.ErrUsed, func() error { return q.RemoveNode("a") })
	answers(t, "Release", q.Release("x"), none)
	for i, name := range []string{"b", "a", "r"} {
		answers(t, "RemoveNode of "+name, q.RemoveNode(name), none)
		if n := len(q.Nodes()); n != 2-i {
			t.Errorf("%d nodes are left", n)
		}
	}
	if got := string(q.Encode()); got != "n0;n0;" {
		t.Errorf("What is left: %s", got)
	}
	answers(t, "AddNode again", q.AddNode(node("c", "", 3, 0, 0)), none)
	totals(t, q, "c", 3, 0)
}

// TestQU1RemoveHolds: a node that others borrow from stays, if they do so in one part alone; it goes once they don't.
func TestQU1RemoveHolds(t *testing.T) {
	for _, kind := range []complex128{1, 1i} {
		q := tree(t, node("r", "", 0, 0, 0), node("m", "r", 0, most*(1+1i), 0), node("a", "m", kind, 5*(1+1i), 0), node("b", "m", 3+3i, 0, 3+3i), node("e", "r", 2+2i, 0, most*(1+1i)))
		admit(t, q, use("x", "a", 5*kind))
		// What a uses beyond its own it has from b, which lends 3, and from e, of which one is left.
		refuses(t, q, "RemoveNode of b", api.ErrUsed, func() error { return q.RemoveNode("b") })
		answers(t, "Release", q.Release("x"), none)
		admit(t, q, use("x", "a", 4*kind))
		refuses(t, q.Clone(), "RemoveNode of b", api.ErrUsed, func() error { return q.RemoveNode("b") })
		answers(t, "RemoveNode of e", q.Clone().RemoveNode("e"), none)
		answers(t, "Release", q.Release("x"), none)
		admit(t, q, use("x", "a", 3*kind))
		answers(t, "RemoveNode of b", q.RemoveNode("b"), none)
		totals(t, q, "m", kind, 3*kind)
		totals(t, q, "r", 2+2i+kind, 3*kind)
		refuses(t, q, "RemoveNode of e", api.ErrUsed, func() error { return q.RemoveNode("e") })
		answers(t, "AddNode", q.AddNode(node("b", "m", 3+3i, 0, 3+3i)), none)
		answers(t, "RemoveNode of e", q.RemoveNode("e"), none)
		totals(t, q, "r", 3+3i+kind, 3*kind)
	}
}

// TestQU1RemoveFar: where the tree would not hold is far above what goes, or stands at the root that uses it all.
func TestQU1RemoveFar(t *testing.T) {
	q := tree(t, node("r", "", 0, 0, 0), node("a", "r", 0, 0, 9+9i), node("b", "a", 0, 0, 9+9i), node("c", "b", 2+3i, 0, 0))
	admit(t, q, use("x", "r", 2+2i))
	refuses(t, q, "RemoveNode of c", api.ErrUsed, func() error { return q.RemoveNode("c") })
	answers(t, "Release", q.Release("x"), none)
	answers(t, "RemoveNode of c", q.RemoveNode("c"), none)
	totals(t, q, "r", 0, 0)
	room(t, q, "r", 0)
}

package quota_test

import (
	"fmt"
	"slices"
	"testing"

	"tollbar/api"
	"tollbar/quota"
)

// TestQU3None: what is not there is not told, and nothing beside the error is.
func TestQU3None(t *testing.T) {
	q := example(t)
	admit(t, q, use("x", "a", 1))
	for _, name := range append(badNames(), "x", "A", "rr", "c") {
		n, err := q.Node(name)
		answers(t, fmt.Sprintf("Node %q", name), err, api.ErrNone)
		used, err := q.Used(name)
		answers(t, fmt.Sprintf("Used of %q", name), err, api.ErrNone)
		total, err := q.Total(name)
		answers(t, fmt.Sprintf("Total of %q", name), err, api.ErrNone)
		left, err := q.Room(name)
		answers(t, fmt.Sprintf("Room of %q", name), err, api.ErrNone)
		if n != (quota.Node{}) || used != 0 || total != 0 || left != 0 {
			t.Errorf("Of %q: %v, %v, %v, %v", name, n, used, total, left)
		}
	}
	// Also where no use at all could be admitted.
	_, err := crowd(t).Room("x")
	answers(t, "Room of no node", err, api.ErrNone)
}

// TestQU3Room: nothing is left, one is left, all is, of each kind by itself.
func TestQU3Room(t *testing.T) {
	q := tree(t, node("r", "", most*(1+1i), 0, 0), node("o", "", 0, most*(1+1i), most*(1+1i)), node("e", "", 3, 0, 0), node("f", "", 1i, 0, 0))
	room(t, q, "r", most*(1+1i))
	room(t, q, "o", 0)
	room(t, q, "e", 3)
	room(t, q, "f", 1i)
	admit(t, q, use("~fresh", "r", 1))
	room(t, q, "r", most-1+most*1i)
	admit(t, q, use("~", "r", (most-1)*1i))
	room(t, q, "r", most-1+1i)
	admit(t, q, use("!", "r", most-1+1i))
	room(t, q, "r", 0)
	// A child may borrow as much again as it has: but more than MaxAmount nothing uses.
	b := tree(t, node("r", "", 0, 0, 0), node("a", "r", most*(1+1i), most*(1+1i), 0))
	room(t, b, "a", most*(1+1i))
	room(t, b, "r", 0)
	before := b.Encode()
	for range 3 {
		room(t, b, "a", most*(1+1i))
	}
	if after := b.Encode(); string(after) != string(before) {
		t.Errorf("Room has changed the tree: %s, not %s", after, before)
	}
}

// TestQU3Powers: room at every place of a number, so that a search that misses one is found.
func TestQU3Powers(t *testing.T) {
	for shift := range 41 {
		for _, off := range []int{-1, 0, 1} {
			n := 1<<shift + off
			if n > most {
				continue
			}
			q := tree(t, node("r", "", c(n, most-n), 0, 0), node("a", "r", 0, c(most, n), 0))
			room(t, q, "r", c(n, most-n))
			room(t, q, "a", c(n, min(n, most-n)))
		}
	}
}

// TestQU3Order: names and IDs by their bytes, in whatever order they came.
func TestQU3Order(t *testing.T) {
	names := []string{"!", "!!", "0", "1", "10", "2", "A", "Z", "a", "a!", "aa", "b", "z", "~", "~!", "~~"}
	for turn := range len(names) {
		q := quota.New()
		for i := range names {
			// Seven goes through all sixteen.
			name := names[(i*7+turn)%len(names)]
			if err := q.AddNode(node(name, "", 1, 0, 0)); err != nil {
				t.Fatalf("AddNode: %v", err)
			}
			admit(t, q, use(names[(i*5+turn)%len(names)], name, 1))
		}
		if got := q.Nodes(); !slices.Equal(got, names) {
			t.Errorf("Nodes: %q, not %q", got, names)
		}
		var ids []string
		for _, u := range q.Uses() {
			ids = append(ids, u.ID)
		}
		if !slices.Equal(ids, names) {
			t.Errorf("Uses: %q, not %q", ids, names)
		}
	}
}

// TestQU3Uses: each use as it was told.
func TestQU3Uses(t *testing.T) {
	q := example(t)
	admit(t, q, use("y", "b", 1+2i), use("x", "a", 3), use("z", "a", 0))
	want := []quota.Use{use("x", "a", 3), use("y", "b", 1+2i), use("z", "a", 0)}
	if got := q.Uses(); !slices.Equal(got, want) {
		t.Errorf("Uses: %v, not %v", got, want)
	}
	answers(t, "Release", q.Release("y"), none)
	if got := q.Uses(); !slices.Equal(got, []quota.Use{want[0], want[2]}) {
		t.Errorf("Uses behind Release: %v", got)
	}
}

// TestQU3Clone: a clone tells the same, and goes its own way, as does what it was made of.
func TestQU3Clone(t *testing.T) {
	changes := []func(*quota.Tree) error{
		func(q *quota.Tree) error { return q.AddNode(node("new", "a", 1, 1, 1)) },
		func(q *quota.Tree) error { return q.RemoveNode("c") },
		func(q *quota.Tree) error { return q.Set(node("a", "", 5+5i, 5, 5)) },
		func(q *quota.Tree) error { return q.Admit(use("new", "c", 1)) },
		func(q *quota.Tree) error { return q.Release("x") },
	}
	for i, change := range changes {
		for _, changed := range []int{0, 1} {
			q := example(t)
			answers(t, "AddNode", q.AddNode(node("c", "a", 1+1i, 0, 0)), none)
			admit(t, q, use("x", "a", 1))
			two := []*quota.Tree{q, q.Clone()}
			before, other := string(q.Encode()), told(q)
			if got, also := string(two[1].Encode()), told(two[1]); got != before || also != other {
				t.Fatalf("Clone: %s, %s, not %s, %s", got, also, before, other)
			}
			answers(t, fmt.Sprintf("Change %d", i), change(two[changed]), none)
			if string(two[changed].Encode()) == before {
				t.Errorf("Change %d does nothing", i)
			}
			rest := two[1-changed]
			if got, also := string(rest.Encode()), told(rest); got != before || also != other {
				t.Errorf("Change %d of tree %d: the other one is %s, %s, not %s, %s", i, changed, got, also, before, other)
			}
		}
	}
}

// TestRule3Memory: what is answered is memory of its own, spare room too, and what is handed in is not kept.
func TestRule3Memory(t *testing.T) {
	q := example(t)
	admit(t, q, use("x", "a", 1), use("y", "b", 1))
	before, other := string(q.Encode()), told(q)
	for range 2 {
		names, uses, b := q.Nodes(), q.Uses(), q.Encode()
		names2, uses2, b2 := q.Nodes(), q.Uses(), q.Encode()
		for i := range names[:cap(names)] {
			names[:cap(names)][i] = "#"
		}
		for i := range uses[:cap(uses)] {
			uses[:cap(uses)][i] = use("#", "#", 9)
		}
		for i := range b[:cap(b)] {
			b[:cap(b)][i] = '#'
		}
		if slices.Contains(names2, "#") || slices.Contains(uses2, use("#", "#", 9)) || string(b2) != before {
			t.Error("Two answers share memory")
		}
		if got, also := string(q.Encode()), told(q); got != before || also != other {
			t.Errorf("An answer shares memory with the tree: %s, %s", got, also)
		}
	}
	in := append([]byte(before), "spare"...)[:len(before)]
	d, err := quota.Decode(in)
	if err != nil || string(in[:len(before)+5]) != before+"spare" {
		t.Fatalf("Decode: %v, of %s now", err, in)
	}
	for i := range in[:cap(in)] {
		in[:cap(in)][i] = '#'
	}
	if got, also := string(d.Encode()), told(d); got != before || also != other {
		t.Errorf("Decode keeps its argument: %s, %s", got, also)
	}
}

package quota_test

import (
	"fmt"
	"testing"

	"tollbar/api"
	"tollbar/quota"
)

// TestQU1Set: all three amounts are so, the parent stays, whatever is told of it.
func TestQU1Set(t *testing.T) {
	q := tree(t, node("r", "", 1, 0, 0), node("s", "", 2, 0, 0), node("a", "r", 4, 1, 1))
	for _, parent := range []string{"", "r", "s", "a", "x", "\n", "no name at all, as it is much too long"} {
		answers(t, "Set", q.Set(node("a", parent, 8+1i, 5+5i, 6+6i)), none)
		if n, err := q.Node("a"); n != node("a", "r", 8+1i, 5+5i, 6+6i) || err != nil {
			t.Errorf("Set with the parent %q: %v, %v", parent, n, err)
		}
		totals(t, q, "r", 9+1i, 0)
		totals(t, q, "s", 2, 0)
		answers(t, "Set back", q.Set(node("a", parent, 4, 1, 1)), none)
	}
	totals(t, q, "a", 4, 0)
	totals(t, q, "r", 5, 0)
	answers(t, "Set of a root", q.Set(node("r", "s", 0, 7, 7)), none)
	if n, err := q.Node("r"); n != node("r", "", 0, 7, 7) || err != nil {
		t.Errorf("Set of a root: %v, %v", n, err)
	}
	totals(t, q, "r", 4, 0)
}

// TestQU1SetOrder: which error is told where all behind it apply too.
func TestQU1SetOrder(t *testing.T) {
	q := tree(t, node("r", "", most, 0, 0), node("a", "r", 0, 5, 0))
	admit(t, q, use("x", "a", 5))
	refuses(t, q, "Set of no node, to no amount", api.ErrArg, func() error { return q.Set(node("x", "", -1, 0, 0)) })
	refuses(t, q, "Set of no name, to no amount", api.ErrArg, func() error { return q.Set(node("", "", 0, 0.5, 0)) })
	refuses(t, q, "Set of no node", api.ErrNone, func() error { return q.Set(node("x", "", most, 0, 0)) })
	refuses(t, q, "Set of no name", api.ErrNone, func() error { return q.Set(node("", "", most, 0, 0)) })
	refuses(t, q, "Set of a, beyond all", api.ErrOver, func() error { return q.Set(node("a", "", 1, 0, 0)) })
	refuses(t, q, "Set of a, beyond all", api.ErrOver, func() error { return q.Set(node("a", "", most, 0, 0)) })
	refuses(t, q, "Set of a, which uses more", api.ErrUsed, func() error { return q.Set(node("a", "", 0, 4, 0)) })
	refuses(t, q, "Set of r, which has less", api.ErrUsed, func() error { return q.Set(node("r", "", 4, most, 0)) })
}

// step is a Set, and what it must answer.
type step struct {
	n    quota.Node
	want api.Errno
}

// sets tries each Set on a clone of its own.
func sets(t *testing.T, q *quota.Tree, steps ...step) {
	t.Helper()
	for _, s := range steps {
		other := q.Clone()
		what := fmt.Sprintf("Set of %v", s.n)
		if s.want != none {
			refuses(t, other, what, s.want, func() error { return other.Set(s.n) })
			continue
		}
		answers(t, what, other.Set(s.n), none)
		if n, err := other.Node(s.n.Name); n.Own != s.n.Own || n.Borrow != s.n.Borrow || n.Lend != s.n.Lend || err != nil {
			t.Errorf("%s: %v, %v", what, n, err)
		}
	}
}

// TestQU1SetBorrow: a Borrow may fall to what is borrowed, and not below it, in each part.
func TestQU1SetBorrow(t *testing.T) {
	q := tree(t, node("r", "", 9+9i, 0, 0), node("a", "r", 1+2i, 8+8i, 0))
	admit(t, q, use("x", "a", 4+4i))
	sets(t, q,
		step{node("a", "", 1+2i, 3+2i, 0), none}, step{node("a", "", 1+2i, 2+2i, 0), api.ErrUsed}, step{node("a", "", 1+2i, 3+1i, 0), api.ErrUsed},
		step{node("a", "", 1+2i, 0, 0), api.ErrUsed}, step{node("a", "", 1+2i, most*(1+1i), 0), none},
		step{node("a", "", 4+4i, 0, 0), none}, step{node("a", "", 3+4i, 0, 0), api.ErrUsed}, step{node("a", "", 4+3i, 0, 0), api.ErrUsed},
		step{node("a", "", 3+4i, 1, 0), none}, step{node("a", "", 0, 4+4i, 0), none}, step{node("a", "", 0, 4+3i, 0), api.ErrUsed},
	)
	// A root has nobody to borrow from.
	sets(t, q, step{node("r", "", 3+2i, 0, 0), none}, step{node("r", "", 2+2i, 9, 0), api.ErrUsed}, step{node("r", "", 3+1i, 9i, 0), api.ErrUsed})
}

// TestQU1SetLend: a Lend may grow always, and fall while nobody has what is lent, in each part.
func TestQU1SetLend(t *testing.T) {
	q := tree(t, node("r", "", 0, 0, 0), node("a", "r", 1+1i, 9+9i, 0), node("b", "r", 5+5i, 0, 4+4i))
	admit(t, q, use("x", "a", 3+4i))
	sets(t, q,
		step{node("b", "", 5+5i, 0, 2+3i), none}, step{node("b", "", 5+5i, 0, 1+3i), api.ErrUsed}, step{node("b", "", 5+5i, 0, 2+2i), api.ErrUsed},
		step{node("b", "", 5+5i, 0, 0), api.ErrUsed}, step{node("b", "", 5+5i, 0, 5+5i), none}, step{node("b", "", 5+5i, 0, 6+9i), none},
		step{node("b", "", 5+5i, 0, most*(1+1i)), none}, step{node("b", "", 2+3i, 0, 2+3i), none}, step{node("b", "", 2+3i, 0, most*(1+1i)), none},
		step{node("b", "", 1+3i, 0, most*(1+1i)), api.ErrUsed}, step{node("b", "", 2+2i, 0, most*(1+1i)), api.ErrUsed}, step{node("b", "", 2+3i, 0, 1+3i), api.ErrUsed},
		step{node("b", "", 9+9i, 0, 2+3i), none}, step{node("b", "", 9+9i, 0, 1+3i), api.ErrUsed},
		// Who borrows lends nothing by it, however much it would.
		step{node("a", "", 1+1i, 9+9i, 9+9i), none},
	)
}

// TestQU1SetOwn: what is its own may fall to what is claimed of it, at the node and above it.
func TestQU1SetOwn(t *testing.T) {
	q := tree(t, node("r", "", 5+5i, 0, 0), node("a", "r", 4+4i, 2+2i, 0), node("b", "a", 3+3i, 0, 1+1i))
	admit(t, q, use("x", "a", 5+4i), use("y", "r", 2+5i))
	// At a, 5/4 and b's 2/2 stand against 4/4 and 3/3 and the 2/2 it may borrow; at r, 2/5 and a's 7/7 against 12/12.
	totals(t, q, "r", 12+12i, 7+9i)
	sets(t, q,
		step{node("a", "", 2+1i, 2+2i, 0), none}, step{node("a", "", 1+1i, 2+2i, 0), api.ErrUsed}, step{node("a", "", 2+0i, 2+2i, 0), api.ErrUsed},
		step{node("a", "", 4+4i, 0+0i, 0), none}, step{node("a", "", 3+4i, 0+0i, 0), api.ErrUsed}, step{node("a", "", 4+3i, 0+0i, 0), none}, step{node("a", "", 4+2i, 0+0i, 0), api.ErrUsed},
		step{node("r", "", 2+5i, 0, 0), none}, step{node("r", "", 1+5i, 0, 0), api.ErrUsed}, step{node("r", "", 2+4i, 0, 0), api.ErrUsed},
		step{node("b", "", 0, 0, 0), none}, step{node("b", "", 3+3i, 0, 0), none},
	)
}

// TestQU1SetFar: where the tree would not hold is far above what is set.
func TestQU1SetFar(t *testing.T) {
	q := tree(t, node("r", "", 0, 0, 0), node("a", "r", 0, 0, 9+9i), node("b", "a", 0, 0, 9+9i), node("c", "b", 6+6i, 0, 4+4i), node("z", "r", 0, 9+9i, 0))
	// What c does not lend b would lend: so all of it may be had elsewhere, but what c's own use takes.
	admit(t, q, use("x", "z", 5+3i), use("y", "c", 1+3i))
	room(t, q, "z", 0)
	sets(t, q,
		step{node("c", "", 5+6i, 0, 4+4i), api.ErrUsed}, step{node("c", "", 6+5i, 0, 4+4i), api.ErrUsed}, step{node("c", "", 7+7i, 0, 0), none},
		step{node("b", "", 0, 0, 5+3i), none}, step{node("b", "", 0, 0, 4+3i), none}, step{node("b", "", 0, 0, 0), none},
		step{node("a", "", 0, 0, 5+3i), none}, step{node("a", "", 0, 0, 4+3i), api.ErrUsed}, step{node("a", "", 0, 0, 5+2i), api.ErrUsed}, step{node("a", "", 1+1i, 0, 5+3i), none},
	)
	both := q.Clone()
	answers(t, "Set", both.Set(node("a", "", 0, 0, 5+3i)), none)
	sets(t, both, step{node("c", "", 7+6i, 0, 4+4i), none}, step{node("b", "", 1+1i, 0, 0), none}, step{node("c", "", 5+6i, 0, 4+4i), api.ErrUsed})
}

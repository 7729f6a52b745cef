package quota_test

import (
	"fmt"
	"slices"
	"testing"

	"tollbar/api"
	"tollbar/quota"
)

// TestQU2Admit: what is admitted is used at its node and all above it, and nowhere else, till it is released.
func TestQU2Admit(t *testing.T) {
	q := tree(t, node("r", "", 9+9i, 0, 0), node("a", "r", 9+9i, 0, 0), node("b", "a", 9+9i, 0, 0), node("c", "a", 9+9i, 0, 0), node("s", "", 9+9i, 0, 0))
	admit(t, q, use("x", "b", 1+2i), use("y", "b", 2+1i), use("z", "a", 4), use("w", "c", 8i), use("v", "c", 0))
	totals(t, q, "r", 36+36i, 7+11i)
	totals(t, q, "a", 27+27i, 7+11i)
	totals(t, q, "b", 9+9i, 3+3i)
	totals(t, q, "c", 9+9i, 8i)
	totals(t, q, "s", 9+9i, 0)
	answers(t, "Release", q.Release("y"), none)
	totals(t, q, "r", 36+36i, 5+10i)
	totals(t, q, "a", 27+27i, 5+10i)
	totals(t, q, "b", 9+9i, 1+2i)
	totals(t, q, "c", 9+9i, 8i)
	for _, id := range []string{"y", "", "b", "X", "x\n"} {
		refuses(t, q, "Release of "+id, api.ErrNone, func() error { return q.Release(id) })
	}
	for _, id := range []string{"x", "z", "w", "v"} {
		answers(t, "Release", q.Release(id), none)
		refuses(t, q, "Release again", api.ErrNone, func() error { return q.Release(id) })
	}
	for _, name := range []string{"r", "a", "b", "c", "s"} {
		if got, err := q.Used(name); got != 0 || err != nil {
			t.Errorf("Used of %s behind all: %v, %v", name, got, err)
		}
	}
	admit(t, q, use("x", "s", 1))
	totals(t, q, "s", 9+9i, 1)
}

// TestQU2Names: an ID is a name as a node's is, and none that a node has stands in its way.
func TestQU2Names(t *testing.T) {
	q := tree(t, node("r", "", most, 0, 0))
	for _, id := range append(goodNames(), "r") {
		answers(t, fmt.Sprintf("Admit of %q", id), q.Admit(use(id, "r", 1)), none)
		if !slices.Contains(q.Uses(), use(id, "r", 1)) {
			t.Errorf("Admit of %q is not there", id)
		}
	}
	for _, id := range badNames() {
		refuses(t, q, fmt.Sprintf("Admit of %q", id), api.ErrName, func() error { return q.Admit(use(id, "r", 1)) })
		refuses(t, q, fmt.Sprintf("Release of %q", id), api.ErrNone, func() error { return q.Release(id) })
		refuses(t, q, fmt.Sprintf("Admit at %q", id), api.ErrNone, func() error { return q.Admit(use("new", id, 1)) })
	}
}

// TestQU2Amounts: what is no amount is not used.
func TestQU2Amounts(t *testing.T) {
	q := tree(t, node("r", "", most+most*1i, 0, 0))
	for _, bad := range nones() {
		refuses(t, q, fmt.Sprintf("Admit of %v", bad), api.ErrArg, func() error { return q.Admit(use("x", "r", bad)) })
	}
}

// crowd is a tree in which MaxUses uses use one each, and all is used.
func crowd(t *testing.T) *quota.Tree {
	t.Helper()
	q := tree(t, node("r", "", api.MaxUses, 0, 0), node("a", "r", most-api.MaxUses+1i, 0, 0))
	for i := range api.MaxUses {
		admit(t, q, use(fmt.Sprintf("u%d", i), "r", 1))
	}
	return q
}

// TestQU2AdmitOrder: which error is told where all behind it apply too.
func TestQU2AdmitOrder(t *testing.T) {
	q := crowd(t)
	calls := []struct {
		u    quota.Use
		want api.Errno
	}{
		{use("", "x", -1), api.ErrName},
		{use("u1 ", "x", 0.5), api.ErrName},
		{use("u1", "x", -1), api.ErrArg},
		{use("u1", "x", most+1), api.ErrArg},
		{use("u1", "x", most), api.ErrTwice},
		{use("u1", "r", most), api.ErrTwice},
		{use("u1", "r", 0), api.ErrTwice},
		{use("new", "x", most), api.ErrNone},
		{use("new", "", most), api.ErrNone},
		{use("new", "r", most), api.ErrFull},
		{use("new", "r", 1), api.ErrFull},
		{use("new", "a", 0), api.ErrFull},
	}
	for _, call := range calls {
		refuses(t, q, fmt.Sprintf("Admit of %v", call.u), call.want, func() error { return q.Admit(call.u) })
	}
	answers(t, "Release", q.Release("u7"), none)
	refuses(t, q, "Admit of more than can be", api.ErrOver, func() error { return q.Admit(use("new", "r", most)) })
	refuses(t, q, "Admit of more than may be used", api.ErrQuota, func() error { return q.Admit(use("new", "r", 2)) })
	answers(t, "Admit", q.Admit(use("new", "r", 1)), none)
	refuses(t, q, "Admit of one too many", api.ErrFull, func() error { return q.Admit(use("newer", "r", 0)) })
}

// TestQU2MaxUses: so many uses there are at most, wherever they are.
func TestQU2MaxUses(t *testing.T) {
	q := crowd(t)
	if n := len(q.Uses()); n != api.MaxUses {
		t.Fatalf("%d uses", n)
	}
	totals(t, q, "r", most+1i, api.MaxUses)
	room(t, q, "a", 0)
	answers(t, "Release", q.Release("u1023"), none)
	room(t, q, "a", most-api.MaxUses+1i)
	answers(t, "AddNode", q.AddNode(node("s", "", 0, 0, 0)), none)
	answers(t, "Admit of nothing", q.Admit(use("x", "s", 0)), none)
	for _, name := range q.Nodes() {
		room(t, q, name, 0)
		refuses(t, q, "Admit at "+name, api.ErrFull, func() error { return q.Admit(use("y", name, 0)) })
	}
}

// TestQU2Over: a used may come to MaxAmount, in each part, at the node and far above it; one more is ErrOver, also where it is more than may be used.
func TestQU2Over(t *testing.T) {
	for _, kind := range []complex128{1, 1i} {
		q := tree(t, node("r", "", most*kind, 0, 0), node("a", "r", 0, most*kind, 0), node("b", "a", 0, most*kind, 0), node("z", "r", 0, 7*kind, 0), node("s", "", 0, 0, 0))
		admit(t, q, use("y", "z", 3*kind))
		refuses(t, q, "Admit of what is more than can be at r alone", api.ErrOver, func() error { return q.Admit(use("x", "b", (most-2)*kind)) })
		refuses(t, q, "Admit of what is more than can be at r alone", api.ErrOver, func() error { return q.Admit(use("x", "b", most*kind)) })
		admit(t, q, use("x", "b", (most-3)*kind))
		totals(t, q, "r", most*kind, most*kind)
		totals(t, q, "a", 0, (most-3)*kind)
		for _, name := range []string{"r", "a", "b", "z"} {
			refuses(t, q, "Admit at "+name, api.ErrOver, func() error { return q.Admit(use("w", name, kind)) })
			refuses(t, q, "Admit at "+name, api.ErrOver, func() error { return q.Admit(use("w", name, most*(1+1i))) })
			answers(t, "Admit of nothing at "+name, q.Clone().Admit(use("w", name, 0)), none)
			room(t, q, name, 0)
		}
		refuses(t, q, "Admit elsewhere", api.ErrQuota, func() error { return q.Admit(use("w", "s", most*kind)) })
		other := complex(imag(kind), real(kind))
		refuses(t, q, "Admit of the other kind", api.ErrQuota, func() error { return q.Admit(use("w", "a", most*other)) })
		answers(t, "Release", q.Release("x"), none)
		room(t, q, "b", (most-3)*kind)
		answers(t, "Release", q.Release("y"), none)
		room(t, q, "b", most*kind)
		admit(t, q, use("x", "b", most*kind))
		totals(t, q, "b", 0, most*kind)
	}
}

// TestQU2Depth: at depth the limits of the node, of what stands above it and of the root each stand in the way by themselves.
func TestQU2Depth(t *testing.T) {
	wide := complex(100, 100)
	for _, narrow := range []int{0, 1, 2, 3} {
		borrow := []complex128{wide, wide, wide, wide}
		borrow[narrow] = 5 + 7i
		root := complex128(50 + 50i)
		if narrow == 0 {
			root = 5 + 7i
		}
		q := tree(t, node("n0", "", root, 0, 0), node("n1", "n0", 0, borrow[1], 0), node("n2", "n1", 0, borrow[2], 0), node("n3", "n2", 0, borrow[3], 0), node("n4", "n3", 0, wide, 0))
		for _, name := range []string{"n3", "n4"} {
			room(t, q, name, 5+7i)
			for _, amount := range []complex128{6, 8i, 6 + 7i, 5 + 8i, 6 + 8i} {
				refuses(t, q, fmt.Sprintf("Admit of %v, where n%d is narrow", amount, narrow), api.ErrQuota, func() error { return q.Admit(use("x", name, amount)) })
			}
		}
		admit(t, q, use("x", "n4", 2+3i), use("y", "n3", 3+4i))
		for i := range 5 {
			want := 45 + 43i
			if i >= narrow {
				want = 0
			}
			if got, err := q.Room(fmt.Sprintf("n%d", i)); got != want || err != nil {
				t.Errorf("Room of n%d, where n%d is narrow: %v, %v, not %v", i, narrow, got, err, want)
			}
		}
		refuses(t, q, "Admit of one more", api.ErrQuota, func() error { return q.Admit(use("z", "n4", 1)) })
		refuses(t, q, "Admit of one more", api.ErrQuota, func() error { return q.Admit(use("z", "n3", 1i)) })
	}
}

// TestQU2Claims: a claim is what is used in the one part, and what is not lent in the other one.
func TestQU2Claims(t *testing.T) {
	q := tree(t, node("r", "", 0, 0, 0), node("a", "r", 10+10i, 0, 6+3i), node("z", "r", 0, most*(1+1i), 0))
	// Without a use a claims 4/7.
	room(t, q, "z", 6+3i)
	admit(t, q, use("x", "a", 5+6i))
	// And now 5/7.
	room(t, q, "z", 5+3i)
	admit(t, q, use("y", "a", 1+2i))
	room(t, q, "z", 4+2i)
	admit(t, q, use("w", "z", 4+2i))
	room(t, q, "a", 0)
	refuses(t, q, "Admit of what is lent", api.ErrQuota, func() error { return q.Admit(use("v", "a", 1)) })
	answers(t, "Release", q.Release("x"), none)
	// 1/2 are used at a, which claims 4/7.
	room(t, q, "a", 5+6i)
	room(t, q, "z", 2+1i)
	answers(t, "Release", q.Release("y"), none)
	room(t, q, "z", 2+1i)
}

// TestQU2LendMore: who lends more than there is lends all, and no more.
func TestQU2LendMore(t *testing.T) {
	q := tree(t, node("r", "", 1+1i, 0, 0), node("a", "r", 3+3i, 0, most*(1+1i)), node("b", "a", 2+2i, 0, 1+9i), node("z", "r", 0, most*(1+1i), 0))
	room(t, q, "z", 6+6i)
	room(t, q, "a", 4+5i)
	admit(t, q, use("x", "z", 6+5i))
	room(t, q, "z", 1i)
	room(t, q, "b", 1i)
	room(t, q, "a", 1i)
	room(t, q, "r", 1i)
}

// TestQU2Own: what a node does not lend is its own at all times, whatever others use; what is used at a node itself goes beside its children's claims.
func TestQU2Own(t *testing.T) {
	q := tree(t, node("r", "", 0, 0, 0), node("a", "r", 8+8i, 9+9i, 2+1i), node("z", "r", 5+5i, 9+9i, 3+4i))
	admit(t, q, use("x", "z", 7+6i))
	room(t, q, "z", 0)
	room(t, q, "a", 6+7i)
	admit(t, q, use("y", "a", 6+7i))
	room(t, q, "a", 0)
	room(t, q, "r", 0)
	answers(t, "AddNode", q.AddNode(node("b", "a", 4+4i, 9+9i, 0)), none)
	// What b brings is claimed by a, which may borrow of it, or by b, and is not there for others.
	room(t, q, "a", 4+4i)
	room(t, q, "b", 4+4i)
	room(t, q, "z", 0)
	room(t, q, "r", 0)
	answers(t, "Set", q.Set(node("a", "", 8+8i, 1+2i, 2+1i)), none)
	room(t, q, "a", 3+3i)
	room(t, q, "b", 4+4i)
	admit(t, q, use("w", "b", 4+4i))
	room(t, q, "a", 0)
}

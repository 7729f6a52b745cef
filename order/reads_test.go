package order_test

import (
	"fmt"
	"math/rand"
	"testing"

	"tollbar/api"
	"tollbar/order"
	"tollbar/pair"
	"tollbar/quota"
)

// TestOR1Reads: what is a query, or of no kind, reads; nothing else does, whatever it has.
func TestOR1Reads(t *testing.T) {
	for _, o := range append(all(), order.Order{}) {
		reads := o.Kind == order.Query || o.Kind < 1 || o.Kind > 6
		if got := order.Reads(o); got != reads {
			t.Errorf("Reads of %v: %v", o, got)
		}
		if got := order.Reads(order.Order{Kind: o.Kind}); got != reads {
			t.Errorf("Reads of kind %d: %v", o.Kind, got)
		}
	}
}

// TestOR1ReadsOrDoes: of each kind that does not read something changes a tree.
func TestOR1ReadsOrDoes(t *testing.T) {
	for _, o := range all() {
		q := example(t)
		does(t, q, admit(use("w", "a", 1)), done(1, 4+4i))
		before := told(q)
		order.Do(q, o)
		if changed := told(q) != before; changed == order.Reads(o) {
			t.Errorf("%v changes something: %v", o, changed)
		}
	}
}

// TestOR3Reads: what reads leaves a tree with much in it as it is, byte by byte, and is answered the same again.
func TestOR3Reads(t *testing.T) {
	q := crowd(t)
	before := told(q)
	look := func(o order.Order) {
		t.Helper()
		first, second := order.Do(q, o), order.Do(q, o)
		if !order.Reads(o) || !sameAnswer(first, second) || told(q) != before {
			t.Fatalf("Do of %v: %v, %v, and the tree %s, not %s", o, first, second, told(q), before)
		}
	}
	for i := range api.MaxNodes {
		name := fmt.Sprintf("n%d", i)
		used, _ := q.Used(name)
		total, _ := q.Total(name)
		if got := order.Do(q, query(name)); !sameAnswer(got, done(used, total)) {
			t.Fatalf("Query of %s: %v, not %v and %v", name, got, used, total)
		}
		if i%16 == 0 {
			look(query(name))
		}
	}
	for _, o := range []order.Order{query("m"), query(""), query("u1"), {}} {
		look(o)
	}
	for _, kind := range noKinds() {
		o := admit(use("v", "n0", 0))
		o.Kind = kind
		look(o)
	}
}

// TestOR3Errors: what answers an error leaves a tree with much in it as it is, byte by byte.
func TestOR3Errors(t *testing.T) {
	q := crowd(t)
	refusals := []struct {
		o    order.Order
		want api.Errno
	}{
		{admit(use("u1", "n0", 0)), api.ErrTwice}, {admit(use("v", "n0", 0)), api.ErrFull}, {admit(use("v", "m", 0)), api.ErrNone},
		{release("v"), api.ErrNone},
		{set(node("n255", "", most, 5, 0)), api.ErrOver}, {set(node("n255", "", 0, 5, 0)), api.ErrUsed}, {set(node("n255", "", 0.5, 5, 0)), api.ErrArg},
		{add(node("n9", "", 1, 1, 1)), api.ErrTwice}, {add(node("m", "n9", 1, 1, 1)), api.ErrFull},
		{remove("n0"), api.ErrUsed}, {remove("n255"), api.ErrUsed}, {remove("m"), api.ErrNone},
	}
	for _, r := range refusals {
		does(t, q, r.o, refused(r.want))
	}
	if len(q.Nodes()) != api.MaxNodes || len(q.Uses()) != api.MaxUses {
		t.Errorf("%d nodes, %d uses", len(q.Nodes()), len(q.Uses()))
	}
}

// draw draws orders from a few names and amounts, so that they meet.
type draw struct{ r *rand.Rand }

func (d draw) name() string {
	return []string{"", " ", "a", "b", "c", "d", "e", "f", "a", "b", "c", "d", "e", "f"}[d.r.Intn(14)]
}

func (d draw) amount() complex128 {
	switch d.r.Intn(40) {
	case 0:
		return nones()[d.r.Intn(len(nones()))]
	case 1, 2, 3, 4, 5, 6:
		return c(most-d.r.Intn(3), d.r.Intn(3))
	}
	return c(d.r.Intn(9), d.r.Intn(9))
}

func (d draw) order() order.Order {
	return order.Order{
		Kind: d.r.Intn(9) - 1,
		Node: node(d.name(), d.name(), d.amount(), d.amount(), d.amount()),
		Use:  use(d.name(), d.name(), d.amount()),
	}
}

// plain is what an order is answered by quota's calls one by one, of a tree in which it is done so.
func plain(q *quota.Tree, o order.Order) order.Answer {
	name, err, tells := o.Node.Name, error(nil), true
	switch o.Kind {
	case 1:
		name, err = o.Use.Node, q.Admit(o.Use)
	case 2:
		err, tells = q.Release(o.Use.ID), false
	case 3:
		err = q.Set(o.Node)
	case 4:
		err = q.AddNode(o.Node)
	case 5:
		err, tells = q.RemoveNode(name), false
	case 6:
		_, err = q.Node(name)
	default:
		err = api.ErrArg
	}
	if err != nil {
		return refused(err.(api.Errno))
	}
	if !tells {
		return done(0, 0)
	}
	used, _ := q.Used(name)
	total, _ := q.Total(name)
	return done(used, total)
}

// TestOR3Drawn: drawn orders are answered as quota's calls are, by trees that came to what they are in other ways, and alike if they went over bytes.
func TestOR3Drawn(t *testing.T) {
	met := map[string]int{}
	for seed := range 100 {
		d := draw{rand.New(rand.NewSource(int64(seed)))}
		q, other := quota.New(), quota.New()
		for range 300 {
			o := d.order()
			decoded, err := order.Decode(order.Encode(o))
			if err != nil && (may(o) || err != api.ErrForm) {
				t.Fatalf("Decode of %v: %v", o, err)
			}
			want := plain(other, o)
			if err == nil {
				o = decoded
			}
			does(t, q, o, want)
			if told(q) != told(other) {
				t.Fatalf("Seed %d: behind %v: %s, not %s", seed, o, told(q), told(other))
			}
			met[fmt.Sprintf("%d %d", o.Kind, want.Err)]++
			if d.r.Intn(20) == 0 {
				if q, err = quota.Decode(q.Encode()); err != nil {
					t.Fatal(err)
				}
			}
		}
	}
	for _, way := range []string{"1 0", "1 1", "1 5", "1 6", "1 8", "1 9", "1 20", "2 0", "2 8", "3 0", "3 1", "3 5", "3 8", "3 21", "4 0", "4 1", "4 5", "4 6", "4 8", "4 9", "5 0", "5 8", "5 21", "6 0", "6 8", "-1 1", "0 1", "7 1"} {
		if met[way] < 10 {
			t.Errorf("%s was met %d times", way, met[way])
		}
	}
}

// may tells whether all of an order's are amounts.
func may(o order.Order) bool {
	return pair.May(o.Node.Own) && pair.May(o.Node.Borrow) && pair.May(o.Node.Lend) && pair.May(o.Use.Amount)
}

package quota

import (
	"slices"

	"tollbar/api"
	"tollbar/pair"
)

// node is a node with what comes of those below it, so that a change asks for those above it alone.
//
// What two amounts come to can be more than an amount may be (a limit, claims together), so that it is
// reckoned with plain complex numbers: so far beneath 2^53 they are exact.
type node struct {
	Node
	total, used complex128
	here        complex128 // the amounts of the uses at it itself
	claims      complex128 // those of its children, together
}

// claim is what a node takes of its parent's limit, whether it is used or not.
func (n node) claim() complex128 {
	// What is used is never below 0: so less than nothing, which Lend may leave, never counts.
	free := n.total - n.Lend
	return complex(max(real(n.used), real(free)), max(imag(n.used), imag(free)))
}

// limit is what may be used and claimed at a node.
func (n node) limit() complex128 {
	if n.Parent == "" {
		return n.total
	}
	return n.total + n.Borrow
}

// strained tells whether more is used and claimed at a node than its limit.
func strained(n node) bool {
	need, limit := n.here+n.claims, n.limit()
	return real(need) > real(limit) || imag(need) > imag(limit)
}

// over tells whether a node's total or used is more than an amount may be.
func over(n node) bool { return !pair.May(n.total) || !pair.May(n.used) }

// fits answers what stands in the way of using so much more.
func fits(way []node) error {
	switch {
	case slices.ContainsFunc(way, over):
		return api.ErrOver
	case slices.ContainsFunc(way, strained):
		return api.ErrQuota
	}
	return nil
}

// changed are a node and all above it, up to its root, as they would be if the node were so, but for its total and used: at all of them so much comes to those.
func (t *Tree) changed(n node, total, used complex128) []node {
	var way []node
	for {
		n.total += total
		n.used += used
		way = append(way, n)
		if n.Parent == "" {
			return way
		}
		more := n.claim() - t.nodes[n.Name].claim()
		n = t.nodes[n.Parent]
		n.claims += more
	}
}

// using are a node and all above it, as they would be if so much more were used at it.
func (t *Tree) using(n node, more complex128) []node {
	n.here += more
	return t.changed(n, 0, more)
}

// keep makes nodes so.
func (t *Tree) keep(way []node) {
	// The maps are made with the first node, so that a tree which New did not make is one without nodes, too.
	if t.nodes == nil {
		t.nodes, t.uses = map[string]node{}, map[string]Use{}
	}
	for _, n := range way {
		t.nodes[n.Name] = n
	}
}

package quota

import (
	"tollbar/api"
	"tollbar/pack"
	"tollbar/pair"
)

// Encode is a tree as bytes, in one way.
func (t *Tree) Encode() []byte {
	if t == nil {
		return nil
	}
	b := pack.New().Uint(uint64(len(t.nodes))).Done()
	for _, name := range t.Nodes() {
		n := t.nodes[name]
		b = append(b, pack.New().Text(n.Name).Text(n.Parent).Done()...)
		for _, c := range []complex128{n.Own, n.Borrow, n.Lend} {
			b = append(b, pair.Put(nil, c)...)
		}
	}
	b = append(b, pack.New().Uint(uint64(len(t.uses))).Done()...)
	for _, u := range t.Uses() {
		b = append(b, pack.New().Text(u.ID).Text(u.Node).Done()...)
		b = append(b, pair.Put(nil, u.Amount)...)
	}
	return b
}

// Decode is the tree of bytes.
func Decode(b []byte) (*Tree, error) {
	r := pack.Read(b)
	nodes := make([]Node, r.Count(api.MaxNodes))
	for i := range nodes {
		nodes[i] = readNode(r)
	}
	uses := make([]Use, r.Count(api.MaxUses))
	for i := range uses {
		uses[i] = readUse(r)
	}
	if r.Done() != nil || !rising(nodes, func(n Node) string { return n.Name }) || !rising(uses, func(u Use) string { return u.ID }) {
		return nil, api.ErrForm
	}
	// Each tree that holds comes of adding its nodes, parents first, and admitting its uses: less is used all the way.
	t := New()
	if t.plant(nodes) != nil || t.admitAll(uses) != nil {
		return nil, api.ErrForm
	}
	return t, nil
}

// readNode takes a node off.
func readNode(r *pack.Reader) Node {
	return Node{
		Name: r.Text(api.MaxLabel), Parent: r.Text(api.MaxLabel),
		Own: readAmount(r), Borrow: readAmount(r), Lend: readAmount(r),
	}
}

// readUse takes a use off.
func readUse(r *pack.Reader) Use {
	return Use{ID: r.Text(api.MaxLabel), Node: r.Text(api.MaxLabel), Amount: readAmount(r)}
}

// readAmount takes an amount off.
func readAmount(r *pack.Reader) complex128 {
	first, second := r.Uint(api.MaxAmount), r.Uint(api.MaxAmount)
	return complex(float64(first), float64(second))
}

// rising tells whether each of some has a greater key than the one ahead of it.
func rising[T any](l []T, key func(T) string) bool {
	for i := range l {
		if i > 0 && key(l[i-1]) >= key(l[i]) {
			return false
		}
	}
	return true
}

// plant adds nodes, each behind its parent.
func (t *Tree) plant(nodes []Node) error {
	for len(nodes) > 0 {
		var later []Node
		for _, n := range nodes {
			if n.Parent != "" && !t.has(n.Parent) {
				later = append(later, n)
			} else if err := t.AddNode(n); err != nil {
				return err
			}
		}
		// Those left over stand in a round, or below it, or below nothing.
		if len(later) == len(nodes) {
			return api.ErrNone
		}
		nodes = later
	}
	return nil
}

// admitAll admits uses.
func (t *Tree) admitAll(uses []Use) error {
	for _, u := range uses {
		if err := t.Admit(u); err != nil {
			return err
		}
	}
	return nil
}

package order

import (
	"tollbar/api"
	"tollbar/pack"
	"tollbar/pair"
	"tollbar/quota"
)

// Encode is what is asked for, as bytes.
func Encode(o Order) []byte {
	b := pack.New().Int(o.Kind).Text(o.Node.Name).Text(o.Node.Parent).Done()
	b = put(b, o.Node.Own, o.Node.Borrow, o.Node.Lend)
	b = append(b, pack.New().Text(o.Use.ID).Text(o.Use.Node).Done()...)
	return put(b, o.Use.Amount)
}

// Decode is what bytes ask for.
func Decode(b []byte) (Order, error) {
	r := pack.Read(b)
	o := Order{Kind: r.Int(), Node: takeNode(r), Use: takeUse(r)}
	if r.Done() != nil {
		return Order{}, api.ErrForm
	}
	return o, nil
}

// EncodeAnswer is an answer as bytes.
func EncodeAnswer(a Answer) []byte {
	return put(pack.New().Int(a.Err).Done(), a.Used, a.Total)
}

// DecodeAnswer is the answer of bytes.
func DecodeAnswer(b []byte) (Answer, error) {
	r := pack.Read(b)
	a := Answer{Err: r.Int(), Used: takeAmount(r), Total: takeAmount(r)}
	if r.Done() != nil {
		return Answer{}, api.ErrForm
	}
	return a, nil
}

// put lays amounts behind bytes.
func put(b []byte, amounts ...complex128) []byte {
	for _, c := range amounts {
		b = pair.Put(b, c)
	}
	return b
}

// takeNode takes a node off.
func takeNode(r *pack.Reader) quota.Node {
	return quota.Node{
		Name:   r.Text(api.MaxLabel),
		Parent: r.Text(api.MaxLabel),
		Own:    takeAmount(r),
		Borrow: takeAmount(r),
		Lend:   takeAmount(r),
	}
}

// takeUse takes a use off.
func takeUse(r *pack.Reader) quota.Use {
	return quota.Use{ID: r.Text(api.MaxLabel), Node: r.Text(api.MaxLabel), Amount: takeAmount(r)}
}

// takeAmount takes an amount off.
func takeAmount(r *pack.Reader) complex128 {
	first, second := r.Uint(api.MaxAmount), r.Uint(api.MaxAmount)
	return complex(float64(first), float64(second))
}

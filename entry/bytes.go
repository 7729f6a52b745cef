package entry

import (
	"tollbar/api"
	"tollbar/pack"
)

// Encode is an entry as bytes.
func Encode(e Entry) []byte {
	return pack.New().Uint(uint64(e.Index)).Uint(uint64(e.Term)).Uint(uint64(e.Kind)).Bytes(e.Data).Done()
}

// Decode is the entry of bytes.
func Decode(b []byte) (Entry, error) {
	r := pack.Read(b)
	e := Entry{Index: int(r.Uint(api.MaxIndex)), Term: int(r.Uint(api.MaxIndex)), Kind: int(r.Uint(Member)), Data: r.Bytes(mostData)}
	if r.Done() != nil || !may(e) {
		return Entry{}, api.ErrForm
	}
	return e, nil
}

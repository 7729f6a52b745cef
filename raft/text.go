package raft

import (
	"tollbar/api"
	"tollbar/conf"
	"tollbar/pack"
)

// sizePiece is how many bytes a piece of the handed text has at most.
const sizePiece = 1024

// handed is the handed text of what is kept: the members and the text that stand for the entries that were let go.
func handed(s Stored) []byte {
	return pack.New().Bytes(conf.Encode(s.Conf)).Bytes(s.Snap).Done()
}

// taken are the members and the text of a handed text.
func taken(b []byte) (conf.Conf, []byte, error) {
	r := pack.Read(b)
	members, snap := r.Bytes(api.MaxBytes), r.Bytes(api.MaxBytes)
	if err := r.Done(); err != nil {
		return nil, nil, err
	}
	l, err := conf.Decode(members)
	if err != nil {
		return nil, nil, err
	}
	return l, snap, nil
}

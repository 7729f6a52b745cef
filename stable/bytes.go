package stable

import (
	"tollbar/api"
	"tollbar/conf"
	"tollbar/entry"
	"tollbar/pack"
	"tollbar/raft"
)

// How many bytes members and an entry may have among others.
const (
	mostConf  = 512
	mostEntry = 4200
)

// The places of the numbers that stand ahead.
const (
	atSave = iota
	atTerm
	atVote
	atBase
	atBaseTerm
	numbers // how many there are
)

// Encode is something that is kept, as bytes, with the number of its save.
func Encode(n int, s raft.Stored) []byte {
	w := pack.New()
	for _, number := range ahead(n, s) {
		w.Uint(uint64(number))
	}
	w.Bytes(conf.Encode(s.Conf)).Bytes(s.Snap).Uint(uint64(len(s.Log.L)))
	for _, e := range s.Log.L {
		w.Bytes(entry.Encode(e))
	}
	return w.Done()
}

// Decode is what bytes tell.
func Decode(b []byte) (int, raft.Stored, error) {
	n, s, err := take(pack.Read(b))
	if err != nil || n < 1 || !may(s) {
		return 0, raft.Stored{}, api.ErrForm
	}
	return n, s, nil
}

// take takes off all of what is kept, and the number of its save.
func take(r *pack.Reader) (int, raft.Stored, error) {
	var n [numbers]int
	for i := range n {
		n[i] = int(r.Uint(api.MaxIndex))
	}
	members, err := conf.Decode(r.Bytes(mostConf))
	if err != nil {
		return 0, raft.Stored{}, err
	}
	snap := r.Bytes(api.MaxBytes)
	var l []entry.Entry
	for range r.Count(api.MaxList) {
		e, err := entry.Decode(r.Bytes(mostEntry))
		if err != nil {
			return 0, raft.Stored{}, err
		}
		l = append(l, e)
	}
	s := raft.Stored{
		Term: n[atTerm],
		Vote: n[atVote],
		Log:  entry.Log{Base: n[atBase], Term: n[atBaseTerm], L: l},
		Conf: members,
		Snap: snap,
	}
	return n[atSave], s, r.Done()
}

// ahead are the numbers that stand ahead.
func ahead(n int, s raft.Stored) [numbers]int {
	return [numbers]int{atSave: n, atTerm: s.Term, atVote: s.Vote, atBase: s.Log.Base, atBaseTerm: s.Log.Term}
}

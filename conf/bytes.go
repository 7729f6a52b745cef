package conf

import (
	"tollbar/api"
	"tollbar/pack"
)

// Encode is members as bytes.
func Encode(c Conf) []byte {
	w := pack.New().Uint(uint64(len(c)))
	for _, who := range c {
		w.Uint(uint64(who))
	}
	return w.Done()
}

// Decode is the members of bytes.
func Decode(b []byte) (Conf, error) {
	r := pack.Read(b)
	var c Conf
	for range r.Count(api.MaxMembers) {
		c = append(c, int(r.Uint(mostWho)))
	}
	if r.Done() != nil || !may(c) {
		return nil, api.ErrForm
	}
	return c, nil
}

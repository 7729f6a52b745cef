package msg

import (
	"tollbar/api"
	"tollbar/entry"
	"tollbar/pack"
	"tollbar/seal"
)

// frameKind is the kind with which messages are sealed.
const frameKind = 109

// mostEntry is how many bytes an entry may have within a message.
const mostEntry = 4200

// Encode is a message as bytes.
func Encode(m Msg) []byte {
	w := pack.New()
	lay(w, m.Kind, m.From, m.To, m.Term, m.Index, m.LogTerm, m.Commit, m.Round)
	w.Bool(m.OK)
	lay(w, m.Off)
	w.Bytes(m.Data)
	lay(w, len(m.Entries))
	for _, e := range m.Entries {
		w.Bytes(entry.Encode(e))
	}
	return w.Done()
}

// Decode is the message of bytes.
func Decode(b []byte) (Msg, error) {
	r := pack.Read(b)
	number := func() int { return int(r.Uint(api.MaxIndex)) }
	m := Msg{
		Kind:    number(),
		From:    number(),
		To:      number(),
		Term:    number(),
		Index:   number(),
		LogTerm: number(),
		Commit:  number(),
		Round:   number(),
		OK:      r.Bool(),
		Off:     number(),
		Data:    r.Bytes(mostData),
	}
	for range r.Count(mostEntries) {
		e, err := entry.Decode(r.Bytes(mostEntry))
		if err != nil {
			return Msg{}, api.ErrForm
		}
		m.Entries = append(m.Entries, e)
	}
	if r.Done() != nil || Check(m) != nil {
		return Msg{}, api.ErrForm
	}
	return m, nil
}

// Seal is a message as a frame.
func Seal(m Msg) []byte {
	frame, err := seal.Seal(frameKind, Encode(m))
	if err != nil {
		return nil
	}
	return frame
}

// Open is the message of a frame.
func Open(b []byte) (Msg, error) {
	kind, between, err := seal.Open(b)
	if err != nil || kind != frameKind {
		return Msg{}, api.ErrForm
	}
	return Decode(between)
}

// lay lays numbers; one below 0 as uint64 has it.
func lay(w *pack.Writer, numbers ...int) {
	for _, n := range numbers {
		w.Uint(uint64(n))
	}
}

package session

import (
	"tollbar/api"
	"tollbar/order"
	"tollbar/pack"
	"tollbar/quota"
)

// How many bytes an order, an answer and a reply may have within others.
const (
	mostOrder  = 512
	mostAnswer = 128
	mostReply  = 256
)

// Encode is a table as bytes, in one way.
func (t *Table) Encode() []byte {
	if t == nil {
		return nil
	}
	w := pack.New().Bytes(t.tree.Encode()).Uint(uint64(len(t.sessions)))
	for _, session := range t.Sessions() {
		last := t.sessions[session]
		w.Uint(uint64(session)).Uint(uint64(last.seq)).Bytes(EncodeReply(last.reply))
	}
	return w.Done()
}

// Decode is the table of bytes.
func Decode(b []byte) (*Table, error) {
	r := pack.Read(b)
	tree, err := quota.Decode(r.Bytes(api.MaxBytes))
	if err != nil {
		return nil, api.ErrForm
	}
	t := &Table{tree: tree, sessions: map[int]asked{}}
	ahead := 0
	for range r.Count(api.MaxClients) {
		session, last, err := takeSession(r)
		// 0 is none, and the same again does not ascend.
		if err != nil || session <= ahead {
			return nil, api.ErrForm
		}
		t.sessions[session] = last
		ahead = session
	}
	if r.Done() != nil {
		return nil, api.ErrForm
	}
	return t, nil
}

// EncodeCommand is a command as bytes.
func EncodeCommand(c Command) []byte {
	return pack.New().Int(c.Kind).Int(c.Session).Int(c.Seq).Bytes(order.Encode(c.Order)).Done()
}

// DecodeCommand is the command of bytes.
func DecodeCommand(b []byte) (Command, error) {
	r := pack.Read(b)
	c := Command{Kind: r.Int(), Session: r.Int(), Seq: r.Int()}
	o, err := order.Decode(r.Bytes(mostOrder))
	if err != nil || r.Done() != nil {
		return Command{}, api.ErrForm
	}
	c.Order = o
	return c, nil
}

// EncodeReply is a reply as bytes.
func EncodeReply(r Reply) []byte {
	return pack.New().Int(r.Err).Int(r.Session).Bytes(order.EncodeAnswer(r.Answer)).Done()
}

// DecodeReply is the reply of bytes.
func DecodeReply(b []byte) (Reply, error) {
	r := pack.Read(b)
	reply := Reply{Err: r.Int(), Session: r.Int()}
	a, err := order.DecodeAnswer(r.Bytes(mostAnswer))
	if err != nil || r.Done() != nil {
		return Reply{}, api.ErrForm
	}
	reply.Answer = a
	return reply, nil
}

// takeSession takes a session's number off, and what it asked for last.
func takeSession(r *pack.Reader) (int, asked, error) {
	session, seq := r.Uint(api.MaxIndex), r.Uint(api.MaxIndex)
	reply, err := DecodeReply(r.Bytes(mostReply))
	return int(session), asked{seq: int(seq), reply: reply}, err
}

package client

import (
	"tollbar/api"
	"tollbar/pack"
	"tollbar/session"
)

// How many bytes a command and a reply may have within others.
const (
	mostCommand = 1024
	mostReply   = 256
)

// Encode is a request as bytes.
func Encode(r Request) []byte {
	return pack.New().Int(r.Client).Int(r.Number).Bool(r.Reads).Bytes(session.EncodeCommand(r.Command)).Done()
}

// Decode is the request of bytes.
func Decode(b []byte) (Request, error) {
	r := pack.Read(b)
	q := Request{Client: r.Int(), Number: r.Int(), Reads: r.Bool()}
	do, err := session.DecodeCommand(r.Bytes(mostCommand))
	if err != nil || r.Done() != nil {
		return Request{}, api.ErrForm
	}
	q.Command = do
	return q, nil
}

// EncodeAnswer is an answer as bytes.
func EncodeAnswer(a Answer) []byte {
	w := pack.New().Int(a.Client).Int(a.Number).Int(a.Err).Int(a.Leader)
	return w.Bytes(session.EncodeReply(a.Reply)).Done()
}

// DecodeAnswer is the answer of bytes.
func DecodeAnswer(b []byte) (Answer, error) {
	r := pack.Read(b)
	a := Answer{Client: r.Int(), Number: r.Int(), Err: r.Int(), Leader: r.Int()}
	reply, err := session.DecodeReply(r.Bytes(mostReply))
	if err != nil || r.Done() != nil {
		return Answer{}, api.ErrForm
	}
	a.Reply = reply
	return a, nil
}

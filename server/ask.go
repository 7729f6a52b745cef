package server

import (
	"cmp"
	"errors"
	"slices"

	"tollbar/api"
	"tollbar/client"
	"tollbar/entry"
	"tollbar/msg"
	"tollbar/order"
	"tollbar/raft"
	"tollbar/read"
	"tollbar/session"
)

// waiting is a request that waits for an entry.
type waiting struct {
	index, term int
	request     client.Request
}

// done is what came of an entry that was done: its term tells whose it was.
type done struct {
	term  int
	reply session.Reply
}

// Ask hears a client's request.
func (s *Server) Ask(r client.Request) (Out, error) {
	if err := s.Dead(); err != nil {
		return Out{}, err
	}
	if s.Waits() >= s.wait {
		return Out{Answers: []client.Answer{s.refusal(r, api.ErrBusy)}}, nil
	}
	take := s.propose
	if r.Reads {
		take = s.read
	}
	told, refused := take(r)
	out, err := s.end(told)
	if err != nil {
		return Out{}, err
	}
	if refused != nil {
		out.Answers = append(out.Answers, s.refusal(r, refused))
	}
	return out, nil
}

// propose takes a request that goes through the log: it waits for its entry.
func (s *Server) propose(r client.Request) ([]msg.Msg, error) {
	index, told, err := s.core.Propose(entry.Order, session.EncodeCommand(r.Command))
	if err != nil {
		return nil, err
	}
	s.entries = append(s.entries, waiting{index, s.Term(), r})
	return told, nil
}

// read takes a request that reads: it waits for a round. What was told of that round is told, whether the request waits or not.
func (s *Server) read(r client.Request) ([]msg.Msg, error) {
	round, index, told, err := s.core.Read()
	if err != nil {
		return nil, err
	}
	if !order.Reads(r.Command.Order) {
		return told, api.ErrArg
	}
	token := s.token + 1
	q, err := read.Add(s.rounds, read.Item{Term: s.Term(), Round: round, Index: index, Token: token})
	if err != nil {
		return told, err
	}
	s.rounds, s.token = q, token
	s.reads[token] = r
	return told, nil
}

// answerEntries answers who waits for an entry whose index is done, by what came of those that were done now.
func (s *Server) answerEntries(came map[int]done) []client.Answer {
	ready := s.part(func(w waiting) bool { return w.index <= s.applied })
	slices.SortStableFunc(ready, func(a, b waiting) int { return cmp.Compare(a.index, b.index) })
	var answers []client.Answer
	for _, w := range ready {
		// An index that was gone over by a text is none of came: what its entry came to can't be told.
		if d, ok := came[w.index]; ok && d.term == w.term {
			answers = append(answers, s.answer(w.request, d.reply))
		} else {
			answers = append(answers, s.refusal(w.request, api.ErrLead))
		}
	}
	return answers
}

// answerRounds answers, in a term, who waits for a round that was heard, or never will be.
func (s *Server) answerRounds(term int) []client.Answer {
	if s.core.View().Role != raft.Leader {
		term = 0 // nobody waits in it: so nobody's round is heard
	}
	var failed, ready []int
	s.rounds, failed = read.Fail(s.rounds, term)
	s.rounds, ready = read.Take(s.rounds, term, s.heard(term), s.applied)
	var answers []client.Answer
	for _, r := range s.takeReads(failed) {
		answers = append(answers, s.refusal(r, api.ErrLead))
	}
	for _, r := range s.takeReads(ready) {
		answers = append(answers, s.answer(r, s.Read(r.Command)))
	}
	return answers
}

// heard is the last round of those that are waited for in a term that it has heard; 0, if it has heard none.
func (s *Server) heard(term int) int {
	last := 0
	for _, round := range read.Rounds(s.rounds, term) {
		if s.core.Heard(round) {
			last = round
		}
	}
	return last
}

// part takes those out that wait for an entry, and of which something holds.
func (s *Server) part(out func(w waiting) bool) []waiting {
	var left, taken []waiting
	for _, w := range s.entries {
		if out(w) {
			taken = append(taken, w)
		} else {
			left = append(left, w)
		}
	}
	s.entries = left
	return taken
}

// takeReads takes the requests of tokens out.
func (s *Server) takeReads(tokens []int) []client.Request {
	var l []client.Request
	for _, token := range tokens {
		l = append(l, s.reads[token])
		delete(s.reads, token)
	}
	return l
}

// answer is a reply to a request.
func (s *Server) answer(r client.Request, reply session.Reply) client.Answer {
	return client.Answer{Client: r.Client, Number: r.Number, Leader: s.core.View().Leader, Reply: reply}
}

// refusal is an error as the answer to a request.
func (s *Server) refusal(r client.Request, err error) client.Answer {
	a := s.answer(r, session.Reply{})
	a.Err = number(err)
	return a
}

// number is an error's number.
func number(err error) int {
	var n api.Errno
	errors.As(err, &n)
	return int(n)
}

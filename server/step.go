package server

import (
	"slices"

	"tollbar/api"
	"tollbar/client"
	"tollbar/entry"
	"tollbar/msg"
	"tollbar/raft"
	"tollbar/session"
)

// end ends a step in which the core told something: nothing is told that hangs on what is not saved.
func (s *Server) end(told []msg.Msg) (Out, error) {
	answers, err := s.settle()
	if err != nil {
		s.dead = err
		return Out{}, err
	}
	out := Out{Answers: answers}
	for _, m := range told {
		out.To = append(out.To, m.To)
		out.Frames = append(out.Frames, msg.Seal(m))
	}
	return out, nil
}

// settle saves what must be kept, does what is committed, answers what can be answered, and lets entries go.
func (s *Server) settle() ([]client.Answer, error) {
	kept := s.core.Stored()
	if err := s.keeper.Save(kept); err != nil {
		return nil, err
	}
	came, err := s.do(kept)
	if err != nil {
		return nil, err
	}
	answers := slices.Concat(s.answerEntries(came), s.answerRounds(kept.Term))
	if err := s.letGo(kept.Log); err != nil {
		return nil, err
	}
	return answers, nil
}

// do does what is committed: what came of each entry, by its index.
func (s *Server) do(kept raft.Stored) (map[int]done, error) {
	if kept.Log.Base > s.applied {
		table, err := session.Decode(kept.Snap)
		if err != nil {
			return nil, api.ErrHalt
		}
		s.table, s.applied = table, kept.Log.Base
	}
	came := map[int]done{}
	for _, e := range entry.From(kept.Log, s.applied+1, s.core.View().Commit-s.applied) {
		came[e.Index] = done{e.Term, s.apply(e)}
		s.applied = e.Index
	}
	return came, nil
}

// apply does an entry: the reply, a zero one to what is no command.
func (s *Server) apply(e entry.Entry) session.Reply {
	if e.Kind != entry.Order {
		return session.Reply{}
	}
	c, err := session.DecodeCommand(e.Data)
	if err != nil {
		return session.Reply{}
	}
	return s.table.Apply(e.Index, c)
}

// letGo lets the entries go that are done, where there are too many.
func (s *Server) letGo(l entry.Log) error {
	if len(l.L) <= s.most || s.applied <= l.Base {
		return nil
	}
	if s.core.Compact(s.applied, s.table.Encode()) != nil {
		return nil
	}
	return s.keeper.Save(s.core.Stored())
}

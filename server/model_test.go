package server_test

import (
	"fmt"
	"slices"

	"tollbar/api"
	"tollbar/client"
	"tollbar/conf"
	"tollbar/disk"
	"tollbar/entry"
	"tollbar/msg"
	"tollbar/order"
	"tollbar/raft"
	"tollbar/server"
	"tollbar/session"
	"tollbar/stable"
)

// wanted is a request that waits: for an entry, or for a round.
type wanted struct {
	r                  client.Request
	round, index, term int
}

// model is a member as the chapter's words have it, one after the other, on layers of its own.
type model struct {
	c       server.Config
	keep    *stable.Keeper
	core    *raft.Core
	table   *session.Table
	applied int
	waits   []wanted // in the order in which they were asked
	dead    error
	seen    map[string]int // how often each way was gone, for the tests to look at
}

func (m *model) way(s string) { m.seen[s]++ }

// begins is SV1; nil, if it can't be.
func begins(d *disk.Disk, c server.Config, draw int, seen map[string]int) (*model, error) {
	m := &model{c: c, seen: seen}
	if c.Most < 1 || c.Most > 2048 || c.Wait < 1 || c.Wait > 4096 {
		return nil, api.ErrArg
	}
	var err error
	if m.keep, err = stable.Open(d, c.First); err != nil {
		return nil, err
	}
	s := m.keep.Load()
	if m.core, err = raft.New(c.ID, c.Span, s, draw); err != nil {
		return nil, err
	}
	m.table, m.applied = session.New(), s.Log.Base
	if len(s.Snap) != 0 {
		m.way("opened of a text")
		if m.table, err = session.Decode(s.Snap); err != nil {
			m.way("opened of no table")
			return nil, api.ErrHalt
		}
	}
	return m, nil
}

// stops stops it for good.
func (m *model) stops(err error) (server.Out, error) {
	m.way(fmt.Sprint("stopped by ", err))
	m.dead = err
	return server.Out{}, err
}

// ends is what the words say of a step's end.
func (m *model) ends(told []msg.Msg) (server.Out, error) {
	if err := m.keep.Save(m.core.Stored()); err != nil {
		return m.stops(err)
	}
	came := map[int]int{} // the term of what was done at an index now
	replies := map[int]session.Reply{}
	s := m.core.Stored()
	if s.Log.Base > m.applied {
		m.way("a text")
		x, err := session.Decode(s.Snap)
		if err != nil {
			return m.stops(api.ErrHalt)
		}
		m.table, m.applied = x, s.Log.Base
	}
	for m.applied < m.core.View().Commit {
		m.applied++
		e := s.Log.L[m.applied-s.Log.Base-1]
		came[e.Index] = e.Term
		if c, err := session.DecodeCommand(e.Data); err == nil && e.Kind == entry.Order {
			replies[e.Index] = m.table.Apply(e.Index, c)
			m.way("done")
		}
	}
	out := server.Out{Answers: append(m.answersEntries(came, replies), m.answersRounds()...)}
	if len(s.Log.L) > m.c.Most && m.applied > s.Log.Base {
		m.way("let go")
		m.core.Compact(m.applied, m.table.Encode())
		if err := m.keep.Save(m.core.Stored()); err != nil {
			m.way("stopped by the second save")
			return m.stops(err)
		}
	}
	for _, x := range told {
		out.To, out.Frames = append(out.To, x.To), append(out.Frames, msg.Seal(x))
	}
	return out, nil
}

// answersEntries: the least index that is done first, of each the one that was asked first.
func (m *model) answersEntries(came map[int]int, replies map[int]session.Reply) []client.Answer {
	var l []client.Answer
	for {
		at := -1
		for i, w := range m.waits {
			if w.round == 0 && w.index <= m.applied && (at < 0 || w.index < m.waits[at].index) {
				at = i
			}
		}
		if at < 0 {
			return l
		}
		w := m.waits[at]
		m.waits = slices.Delete(m.waits, at, at+1)
		switch term, ok := came[w.index]; {
		case !ok:
			m.way("an index gone over")
			l = append(l, m.faults(w.r, api.ErrLead))
		case term != w.term:
			m.way("an index of another term")
			l = append(l, m.faults(w.r, api.ErrLead))
		default:
			m.way("an index of its term")
			if m.core.View().Role != raft.Leader {
				m.way("an index of its term, though it leads no more")
			}
			l = append(l, m.replies(w.r, replies[w.index]))
		}
	}
}

// answersRounds: of those that wait for rounds all, or those whose round is heard.
func (m *model) answersRounds() []client.Answer {
	var l []client.Answer
	var left []wanted
	for _, w := range m.waits {
		switch {
		case w.round == 0:
			left = append(left, w)
		case m.core.View().Role != raft.Leader || m.core.Stored().Term != w.term:
			m.way("a round that is lost")
			l = append(l, m.faults(w.r, api.ErrLead))
		case m.core.Heard(w.round) && w.index <= m.applied:
			m.way("a round that is heard")
			l = append(l, m.replies(w.r, session.Reply{Answer: m.table.Read(w.r.Command.Order)}))
		default:
			left = append(left, w)
		}
	}
	m.waits = left
	return l
}

func (m *model) replies(r client.Request, x session.Reply) client.Answer {
	return client.Answer{Client: r.Client, Number: r.Number, Leader: m.core.View().Leader, Reply: x}
}

func (m *model) faults(r client.Request, err error) client.Answer {
	m.way(fmt.Sprint("answered ", err))
	return client.Answer{Client: r.Client, Number: r.Number, Leader: m.core.View().Leader, Err: int(err.(api.Errno))}
}

// hear, tick and change are SV2.
func (m *model) hear(b []byte, draw int) (server.Out, error) {
	if m.dead != nil {
		return server.Out{}, m.dead
	}
	x, err := msg.Open(b)
	if err != nil {
		m.way("no frame")
		return server.Out{}, api.ErrForm
	}
	return m.ends(m.core.Step(x, draw))
}

func (m *model) tick(draw int) (server.Out, error) {
	if m.dead != nil {
		return server.Out{}, m.dead
	}
	return m.ends(m.core.Tick(draw))
}

func (m *model) change(c conf.Conf) (server.Out, error) {
	if m.dead != nil {
		return server.Out{}, m.dead
	}
	_, told, err := m.core.Propose(entry.Member, conf.Encode(c))
	if err != nil {
		m.way(fmt.Sprint("Change ", err))
		return server.Out{}, err
	}
	m.way("Change")
	return m.ends(told)
}

// ask is SV3.
func (m *model) ask(r client.Request) (server.Out, error) {
	if m.dead != nil {
		return server.Out{}, m.dead
	}
	if len(m.waits) >= m.c.Wait {
		return server.Out{Answers: []client.Answer{m.faults(r, api.ErrBusy)}}, nil
	}
	var told []msg.Msg
	var fault error
	w := wanted{r: r}
	if r.Reads {
		w.round, w.index, told, fault = m.core.Read()
		if fault == nil && !order.Reads(r.Command.Order) {
			fault = api.ErrArg
		}
	} else {
		w.index, told, fault = m.core.Propose(entry.Order, session.EncodeCommand(r.Command))
	}
	w.term = m.core.Stored().Term
	if fault == nil {
		m.waits = append(m.waits, w)
	}
	o, err := m.ends(told)
	if err == nil && fault != nil {
		o.Answers = append(o.Answers, m.faults(r, fault))
	}
	return o, err
}

// shown is all that can be seen of it, as of a member.
func (m *model) shown() string {
	v, s := m.core.View(), m.core.Stored()
	t := fmt.Sprintf("role %d leader %d commit %d round %d term %d conf %v applied %d waits %d dead %v", v.Role, v.Leader, v.Commit, v.Round, s.Term, m.core.Conf(), m.applied, len(m.waits), m.dead)
	t += fmt.Sprintf(" table %q read %v log", m.table.Encode(), session.Reply{Answer: m.table.Read(query("r"))})
	for _, e := range s.Log.L {
		if e.Index >= m.applied-80 {
			t += shownEntry(e)
		}
	}
	return t
}

package raft

import (
	"slices"

	"tollbar/chunk"
	"tollbar/conf"
	"tollbar/entry"
	"tollbar/msg"
)

// Step hears a message: what is told.
func (c *Core) Step(m msg.Msg, draw int) []msg.Msg {
	if c == nil || msg.Check(m) != nil || m.To != c.id || foretells(m) {
		return nil
	}
	if m.Term > c.kept.Term {
		c.kept.Term, c.kept.Vote = m.Term, 0
		c.follow(0)
	}
	switch m.Kind {
	case msg.Vote:
		return c.hearVote(m, draw)
	case msg.Voted:
		return c.hearVoted(m)
	case msg.Append:
		return c.hearAppend(m, draw)
	case msg.Added:
		return c.hearAdded(m)
	case msg.Piece:
		return c.hearPiece(m, draw)
	}
	return c.hearPieced(m)
}

// foretells tells whether a message speaks of a later term than its own: nobody can have sent that.
func foretells(m msg.Msg) bool {
	later := func(e entry.Entry) bool { return e.Term > m.Term }
	return m.LogTerm > m.Term || slices.ContainsFunc(m.Entries, later)
}

// answer is the one answer to a message, of its own term.
func (c *Core) answer(m msg.Msg, kind int, ok bool, index, round int) []msg.Msg {
	a := c.letter(kind, m.From)
	a.OK, a.Index, a.Round = ok, index, round
	return []msg.Msg{a}
}

// hearVote votes, or doesn't.
func (c *Core) hearVote(m msg.Msg, draw int) []msg.Msg {
	free := c.kept.Vote == 0 || c.kept.Vote == m.From
	granted := m.Term == c.kept.Term && free && entry.Newer(c.kept.Log, m.Index, m.LogTerm)
	if granted {
		c.kept.Vote = m.From
		c.rest(draw)
	}
	return c.answer(m, msg.Voted, granted, 0, 0)
}

// hearVoted counts a vote.
func (c *Core) hearVoted(m msg.Msg) []msg.Msg {
	if c.view.Role != Candidate || m.Term != c.kept.Term || !m.OK || slices.Contains(c.votes, m.From) {
		return nil
	}
	c.votes = append(c.votes, m.From)
	if !conf.Quorum(c.Conf(), c.votes) {
		return nil
	}
	return c.lead()
}

// hearAppend takes entries.
func (c *Core) hearAppend(m msg.Msg, draw int) []msg.Msg {
	switch {
	case m.Term < c.kept.Term:
		return c.answer(m, msg.Added, false, 0, 0)
	case slices.ContainsFunc(m.Entries, misleads):
		return nil
	}
	c.follow(m.From)
	c.rest(draw)
	if slices.ContainsFunc(m.Entries, c.denies) {
		return nil
	}
	l, index, ok := entry.Merge(c.kept.Log, m.Index, m.LogTerm, m.Entries)
	if ok {
		c.kept.Log = l
		c.view.Commit = max(c.view.Commit, min(m.Commit, index))
	}
	return c.answer(m, msg.Added, ok, index, m.Round)
}

// denies tells whether an entry is another one than what is committed there.
func (c *Core) denies(e entry.Entry) bool {
	if e.Index <= c.kept.Log.Base || e.Index > c.view.Commit {
		return false
	}
	term, _ := entry.Term(c.kept.Log, e.Index)
	return term != e.Term
}

// leads tells whether it leads in a message's term.
func (c *Core) leads(m msg.Msg) bool { return c.view.Role == Leader && m.Term == c.kept.Term }

// hearAdded learns how far another one is.
func (c *Core) hearAdded(m msg.Msg) []msg.Msg {
	if !c.leads(m) {
		return nil
	}
	p := c.of(m.From)
	p.round = max(p.round, m.Round)
	if m.OK {
		return c.learn(m, p)
	}
	p.next = max(min(m.Index+1, p.next-1), p.match+1)
	p.off = 0
	return []msg.Msg{c.send(m.From)}
}

// learn takes it that another one has the entries up to a message's index.
func (c *Core) learn(m msg.Msg, p *peer) []msg.Msg {
	before := p.match
	p.match = max(p.match, min(m.Index, c.last()))
	p.next = max(p.next, p.match+1)
	told := c.advance()
	if c.view.Role == Leader && p.match > before && p.next <= c.last() {
		told = append(told, c.send(m.From))
	}
	return told
}

// hearPiece takes a piece of a handed text.
func (c *Core) hearPiece(m msg.Msg, draw int) []msg.Msg {
	if m.Term < c.kept.Term {
		return c.answer(m, msg.Pieced, false, m.Index, 0)
	}
	c.follow(m.From)
	c.rest(draw)
	if m.Index <= c.view.Commit {
		return c.answer(m, msg.Pieced, true, m.Index, m.Round)
	}
	b, text, has, whole := chunk.Put(c.box, m.Index, m.Off, m.Data, m.OK)
	c.box = b
	switch {
	case !whole:
		l := c.answer(m, msg.Pieced, false, m.Index, m.Round)
		l[0].Off = has
		return l
	case m.LogTerm == 0:
		return nil
	}
	ok := c.accept(m, text)
	return c.answer(m, msg.Pieced, ok, m.Index, m.Round)
}

// accept takes a handed text in the place of its entries up to a message's index.
func (c *Core) accept(m msg.Msg, text []byte) bool {
	members, snap, err := taken(text)
	if err != nil {
		return false
	}
	c.kept.Conf, c.kept.Snap = members, snap
	c.kept.Log = behind(c.kept.Log, m.Index, m.LogTerm)
	c.view.Commit = m.Index
	return true
}

// behind is what a log has behind an entry: nothing, if it has not that entry.
func behind(l entry.Log, index, term int) entry.Log {
	own, err := entry.Compact(l, index)
	if err != nil || own.Term != term {
		return entry.Log{Base: index, Term: term}
	}
	return own
}

// hearPieced learns how much of the handed text another one has.
func (c *Core) hearPieced(m msg.Msg) []msg.Msg {
	if !c.leads(m) {
		return nil
	}
	p := c.of(m.From)
	p.round = max(p.round, m.Round)
	base := c.kept.Log.Base
	switch {
	case m.OK:
		return c.learn(m, p)
	case m.Index != base || p.next > base:
		return nil
	}
	p.off = 0
	if m.Off < len(handed(c.kept)) {
		p.off = m.Off
	}
	return []msg.Msg{c.send(m.From)}
}

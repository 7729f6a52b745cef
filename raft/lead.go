package raft

import (
	"tollbar/api"
	"tollbar/chunk"
	"tollbar/conf"
	"tollbar/entry"
	"tollbar/msg"
)

// mostSent is how many entries an Append has at most.
const mostSent = 16

// peer is what a leader knows of another member.
type peer struct {
	next  int // the index that is sent next
	match int // up to here it surely has the leader's entries
	off   int // how many bytes of the handed text it has
	round int // the round that it answered last
}

// Tick lets time go on: what is told.
func (c *Core) Tick(draw int) []msg.Msg {
	if c == nil {
		return nil
	}
	c.gone++
	leads := c.view.Role == Leader
	if leads && c.gone < c.heart() || !leads && c.gone < c.wait {
		return nil
	}
	c.gone = 0
	switch {
	case leads:
		return c.sendAll()
	case c.kept.Term < api.MaxIndex && c.mayStand():
		return c.stand(draw)
	}
	return nil
}

// heart is how many ticks there are from one sending of a leader to the next.
func (c *Core) heart() int { return max(c.span/4, 1) }

// stand makes it a candidate of a new term.
func (c *Core) stand(draw int) []msg.Msg {
	c.kept.Term++
	c.kept.Vote = c.id
	c.view.Role, c.view.Leader = Candidate, 0
	c.votes = []int{c.id}
	c.rest(draw)
	if conf.Quorum(c.Conf(), c.votes) {
		return c.lead()
	}
	index, term := entry.Last(c.kept.Log)
	var l []msg.Msg
	for _, who := range c.others() {
		m := c.letter(msg.Vote, who)
		m.Index, m.LogTerm = index, term
		l = append(l, m)
	}
	return l
}

// lead makes it a leader, with an entry of its own term: only by such a one it may commit those of others.
func (c *Core) lead() []msg.Msg {
	c.view.Role, c.view.Leader = Leader, c.id
	c.votes, c.known = nil, map[int]*peer{}
	c.gone = 0
	for _, who := range c.others() {
		c.of(who)
	}
	if c.add(entry.Empty, nil) != nil {
		c.follow(0)
		return nil
	}
	return c.spread()
}

// add lays an entry of its term behind its log.
func (c *Core) add(kind int, data []byte) error {
	l, err := entry.Add(c.kept.Log, c.kept.Term, kind, data)
	if err != nil {
		return err
	}
	c.kept.Log = l
	return nil
}

// of is what it knows of another one: as at first, where that was not known.
func (c *Core) of(who int) *peer {
	p := c.known[who]
	if p == nil {
		p = &peer{next: c.last() + 1}
		c.known[who] = p
	}
	return p
}

// last is the index of its last entry.
func (c *Core) last() int {
	index, _ := entry.Last(c.kept.Log)
	return index
}

// letter is a message of its term.
func (c *Core) letter(kind, to int) msg.Msg {
	return msg.Msg{Kind: kind, From: c.id, To: to, Term: c.kept.Term}
}

// spread sends what is new, which may be committed at once.
func (c *Core) spread() []msg.Msg {
	sent := c.sendAll()
	return append(sent, c.advance()...)
}

// sendAll sends to all others.
func (c *Core) sendAll() []msg.Msg {
	var l []msg.Msg
	for _, who := range c.others() {
		l = append(l, c.send(who))
	}
	return l
}

// send is what another one lacks: entries, or a piece of the text where these were let go.
func (c *Core) send(who int) msg.Msg {
	p := c.of(who)
	if p.next <= c.kept.Log.Base {
		return c.pieceFor(who, p)
	}
	return c.entriesFor(who, p)
}

// entriesFor is an Append.
func (c *Core) entriesFor(who int, p *peer) msg.Msg {
	m := c.letter(msg.Append, who)
	m.Index = p.next - 1
	m.LogTerm, _ = entry.Term(c.kept.Log, m.Index)
	m.Commit, m.Round = c.view.Commit, c.view.Round
	m.Entries = entry.From(c.kept.Log, p.next, mostSent)
	return m
}

// pieceFor is a Piece.
func (c *Core) pieceFor(who int, p *peer) msg.Msg {
	m := c.letter(msg.Piece, who)
	m.Index, m.LogTerm = c.kept.Log.Base, c.kept.Log.Term
	m.Off, m.Round = p.off, c.view.Round
	m.Data, m.OK, _ = chunk.Cut(handed(c.kept), p.off, sizePiece)
	return m
}

// advance commits what a majority has.
func (c *Core) advance() []msg.Msg {
	at, l := c.members()
	index := conf.Agreed(l, c.marks())
	term, _ := entry.Term(c.kept.Log, index)
	// Of an older term an entry can be lost again, whoever has it.
	if index <= c.view.Commit || term != c.kept.Term {
		return nil
	}
	c.view.Commit = index
	if at <= index && !conf.Has(l, c.id) {
		c.follow(0)
		return nil
	}
	return c.sendAll()
}

// marks are how far it and all others have its entries. Their order is the map's, on which nothing hangs.
func (c *Core) marks() []conf.Mark {
	l := []conf.Mark{{Member: c.id, N: c.last()}}
	for who, p := range c.known {
		l = append(l, conf.Mark{Member: who, N: p.match})
	}
	return l
}

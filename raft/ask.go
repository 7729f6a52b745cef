package raft

import (
	"bytes"
	"slices"

	"tollbar/api"
	"tollbar/conf"
	"tollbar/entry"
	"tollbar/msg"
)

// mostSnap is how many bytes a text may have: it is handed over with its members ahead, as api.MaxBytes at most.
const mostSnap = api.MaxBytes - 1024

// Propose asks a leader for an entry: its index, and what is told.
func (c *Core) Propose(kind int, data []byte) (int, []msg.Msg, error) {
	if err := c.mayPropose(kind, data); err != nil {
		return 0, nil, err
	}
	if err := c.add(kind, data); err != nil {
		return 0, nil, err
	}
	return c.last(), c.spread(), nil
}

// mayPropose is an error, if it is not the one to add such an entry, or not yet.
func (c *Core) mayPropose(kind int, data []byte) error {
	switch {
	case c == nil:
		return api.ErrArg
	case c.view.Role != Leader:
		return api.ErrLead
	case kind != entry.Member:
		return nil
	}
	at, now := c.members()
	// One step after the other, so that each majority has a member in common with the next.
	if at > c.view.Commit || !c.settled() {
		return api.ErrWait
	}
	then, err := conf.Decode(data)
	if err != nil || !conf.Near(then, now) || slices.Equal(then, now) {
		return api.ErrArg
	}
	return nil
}

// settled tells whether what is committed is of its term: only then it knows all that is.
func (c *Core) settled() bool {
	term, _ := entry.Term(c.kept.Log, c.view.Commit)
	return term == c.kept.Term
}

// Read begins a round: its number, the index that is committed, and what is told.
func (c *Core) Read() (int, int, []msg.Msg, error) {
	switch {
	case c == nil:
		return 0, 0, nil, api.ErrArg
	case c.view.Role != Leader:
		return 0, 0, nil, api.ErrLead
	case !c.settled():
		return 0, 0, nil, api.ErrWait
	}
	c.view.Round++
	return c.view.Round, c.view.Commit, c.sendAll(), nil
}

// Heard tells whether more than half of the members have answered a round.
func (c *Core) Heard(round int) bool {
	if c == nil || c.view.Role != Leader || round < 1 || round > c.view.Round {
		return false
	}
	some := []int{c.id}
	for who, p := range c.known {
		if p.round >= round {
			some = append(some, who)
		}
	}
	return conf.Quorum(c.Conf(), some)
}

// Compact lets entries go, up to an index, that a text tells instead.
func (c *Core) Compact(index int, snap []byte) error {
	switch {
	case c == nil:
		return api.ErrArg
	case index > c.view.Commit:
		return api.ErrRange
	case len(snap) > mostSnap:
		return api.ErrLong
	}
	l, err := entry.Compact(c.kept.Log, index)
	if err != nil {
		return err
	}
	_, c.kept.Conf = c.membersAt(index)
	c.kept.Log, c.kept.Snap = l, bytes.Clone(snap)
	for _, p := range c.known {
		p.off = 0
	}
	return nil
}

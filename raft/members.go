package raft

import (
	"iter"
	"slices"

	"tollbar/api"
	"tollbar/conf"
	"tollbar/entry"
)

// backwards are the entries of a log from an index down to its first one.
func backwards(l entry.Log, index int) iter.Seq[entry.Entry] {
	return func(yield func(entry.Entry) bool) {
		for i := min(index-l.Base, len(l.L)) - 1; i >= 0; i-- {
			if !yield(l.L[i]) {
				return
			}
		}
	}
}

// membersAt are the members as of an index, and the index of the entry that tells them; 0, if none is there that does.
func (c *Core) membersAt(index int) (int, conf.Conf) {
	for e := range backwards(c.kept.Log, index) {
		if e.Kind == entry.Member {
			l, _ := conf.Decode(e.Data) // no log is taken in which this fails
			return e.Index, l
		}
	}
	return 0, slices.Clone(c.kept.Conf)
}

// members are the members as of its last entry: it goes by them whether they are committed or not.
func (c *Core) members() (int, conf.Conf) { return c.membersAt(api.MaxIndex) }

// others are its members but itself, ascending.
func (c *Core) others() []int {
	itself := func(who int) bool { return who == c.id }
	return slices.DeleteFunc(c.Conf(), itself)
}

// mayStand tells whether it is one of those who choose a leader. Who was
// removed is, till that is committed: it may be the one that can commit it.
func (c *Core) mayStand() bool {
	at, l := c.members()
	if conf.Has(l, c.id) {
		return true
	}
	_, before := c.membersAt(at - 1)
	return at > c.view.Commit && conf.Has(before, c.id)
}

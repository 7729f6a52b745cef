package entry

import "tollbar/api"

// Merge is a log with entries behind one that it must have: the last of them that it has then; or, if it has not that one, where to look for one that it may have.
func Merge(l Log, index, term int, more []Entry) (Log, int, bool) {
	if Check(l) != nil {
		return Log{}, 0, false
	}
	switch {
	case index < 0 || !follow(index, term, more):
		return clone(l), 0, false
	case index > end(l):
		return clone(l), end(l), false
	case index > l.Base && termAt(l, index) != term:
		return clone(l), ahead(l, index), false
	}
	merged := join(l, more)
	// No term was asked for up to Base: what goes behind it may be older than what was let go.
	if Check(merged) != nil {
		return clone(l), 0, false
	}
	return merged, max(l.Base, min(index+len(more), end(merged))), true
}

// ahead is the index ahead of the first entry of a log that has the term of the one at an index.
func ahead(l Log, index int) int {
	term := termAt(l, index)
	first := place(l, index)
again:
	if first > 0 && l.L[first-1].Term == term {
		first--
		goto again
	}
	return l.L[first].Index - 1
}

// join is a log with those of more that it has not, as many as it may have, without its own from the first one on that is another one there.
func join(l Log, more []Entry) Log {
	for i, e := range more {
		at := place(l, e.Index)
		if at < 0 || at < len(l.L) && l.L[at].Term == e.Term {
			continue
		}
		room := min(len(more)-i, api.MaxList-at)
		own := behind(nil, l.L[:at])
		return Log{Base: l.Base, Term: l.Term, L: behind(own, more[i:i+room])}
	}
	return clone(l)
}

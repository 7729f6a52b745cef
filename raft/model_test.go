package raft_test

import (
	"bytes"
	"math/bits"
	"slices"

	"tollbar/api"
	"tollbar/conf"
	"tollbar/entry"
	"tollbar/msg"
	"tollbar/raft"
)

// model is a member as the chapter's words have it, one after the other: what is known of others stands in arrays, by their numbers.
type model struct {
	id, span, gone, wait    int
	s                       raft.Stored
	v                       raft.View
	voted, knows            [65]bool
	next, match, off, round [65]int
	key                     int
	have                    []byte
	told                    []msg.Msg
	seen                    map[string]int // how often each way was gone, for the tests to look at
}

func (m *model) way(s string) { m.seen[s]++ }

// begins is RA1.
func begins(id, span int, s raft.Stored, draw int, seen map[string]int) *model {
	m := &model{id: id, span: span, s: s, v: raft.View{Commit: s.Log.Base}, seen: seen}
	m.waits(draw)
	return m
}

func (m *model) waits(draw int) {
	_, r := bits.Div64(0, uint64(draw), uint64(m.span+1))
	m.gone, m.wait = 0, m.span+int(r)
}

// memberUpTo is the last Member entry up to an index, and the members as of it.
func (m *model) memberUpTo(index int) (int, conf.Conf) {
	at, l := 0, m.s.Conf
	for _, e := range m.s.Log.L {
		if e.Kind == entry.Member && e.Index <= index {
			at = e.Index
			l, _ = conf.Decode(e.Data)
		}
	}
	return at, l
}

func (m *model) conf() conf.Conf {
	_, l := m.memberUpTo(api.MaxIndex)
	return l
}

func (m *model) last() (int, int) { return entry.Last(m.s.Log) }

func (m *model) termOf(index int) int {
	term, err := entry.Term(m.s.Log, index)
	if err != nil {
		return -1
	}
	return term
}

func (m *model) follows(whom int) { m.v.Role, m.v.Leader = raft.Follower, whom }

// majority tells whether those of whom something holds are more than half of the conf.
func (m *model) majority(holds func(who int) bool) bool {
	n := 0
	for _, who := range m.conf() {
		if holds(who) {
			n++
		}
	}
	return 2*n > len(m.conf())
}

// tick is RA2.
func (m *model) tick(draw int) {
	m.gone++
	if m.v.Role == raft.Leader {
		if m.gone >= max(1, m.span/4) {
			m.gone = 0
			m.way("heart")
			m.sendAll()
		}
		return
	}
	if m.gone < m.wait {
		return
	}
	m.gone = 0
	if m.s.Term == api.MaxIndex {
		m.way("greatest term")
		return
	}
	if at, l := m.memberUpTo(api.MaxIndex); !slices.Contains(l, m.id) {
		_, before := m.memberUpTo(at - 1)
		if at <= m.v.Commit || !slices.Contains(before, m.id) {
			m.way("may not stand")
			return
		}
		m.way("stands though it is out")
	}
	m.way("stands")
	m.s.Term++
	m.s.Vote = m.id
	m.v.Role, m.v.Leader = raft.Candidate, 0
	m.voted = [65]bool{}
	m.voted[m.id] = true
	m.waits(draw)
	if m.majority(func(who int) bool { return m.voted[who] }) {
		m.leads()
		return
	}
	index, term := m.last()
	for _, who := range m.conf() {
		if who != m.id {
			m.told = append(m.told, msg.Msg{Kind: msg.Vote, From: m.id, To: who, Term: m.s.Term, Index: index, LogTerm: term})
		}
	}
}

func (m *model) leads() {
	m.v.Role, m.v.Leader, m.gone = raft.Leader, m.id, 0
	m.knows = [65]bool{}
	for _, who := range m.conf() {
		m.know(who)
	}
	l, err := entry.Add(m.s.Log, m.s.Term, entry.Empty, nil)
	if err != nil {
		m.way("nothing can be added")
		m.follows(0)
		return
	}
	m.way("leads")
	m.s.Log = l
	m.sendAll()
	m.advance()
}

func (m *model) know(who int) {
	if !m.knows[who] {
		last, _ := m.last()
		m.knows[who], m.next[who], m.match[who], m.off[who], m.round[who] = true, last+1, 0, 0, 0
	}
}

func (m *model) handed() []byte { return handedText(m.s.Conf, m.s.Snap) }

func (m *model) send(who int) {
	m.know(who)
	if m.next[who] <= m.s.Log.Base {
		m.way("sends a piece")
		m.told = append(m.told, pieceOf(m.id, who, m.s.Term, m.s.Log, m.handed(), m.off[who], m.v.Round))
		return
	}
	index := m.next[who] - 1
	a := msg.Msg{Kind: msg.Append, From: m.id, To: who, Term: m.s.Term, Index: index, LogTerm: m.termOf(index), Commit: m.v.Commit, Round: m.v.Round}
	for _, e := range m.s.Log.L {
		if e.Index > index && len(a.Entries) < 16 {
			a.Entries = append(a.Entries, e)
		}
	}
	m.told = append(m.told, a)
}

func (m *model) sendAll() {
	for _, who := range m.conf() {
		if who != m.id {
			m.send(who)
		}
	}
}

func (m *model) advance() {
	last, _ := m.last()
	has := func(who int) int {
		switch {
		case who == m.id:
			return last
		case m.knows[who]:
			return m.match[who]
		}
		return 0
	}
	index := last
	for index > 0 && !m.majority(func(who int) bool { return has(who) >= index }) {
		index--
	}
	if index <= m.v.Commit {
		return
	}
	if m.termOf(index) != m.s.Term {
		m.way("of an older term")
		return
	}
	m.way("commits")
	m.v.Commit = index
	if at, l := m.memberUpTo(api.MaxIndex); !slices.Contains(l, m.id) && at <= index {
		m.way("leads no more, as it is out")
		m.follows(0)
		return
	}
	m.sendAll()
}

// step is RA3.
func (m *model) step(x msg.Msg, draw int) {
	if msg.Check(x) != nil || x.To != m.id || x.LogTerm > x.Term {
		m.way("not heard")
		return
	}
	for _, e := range x.Entries {
		if e.Term > x.Term {
			m.way("not heard for an entry")
			return
		}
	}
	if x.Term > m.s.Term {
		m.s.Term, m.s.Vote = x.Term, 0
		m.follows(0)
	}
	m.hear(x, msg.Msg{From: m.id, To: x.From, Term: m.s.Term}, draw)
}

func (m *model) hear(x, a msg.Msg, draw int) {
	own := x.Term == m.s.Term
	switch x.Kind {
	case msg.Vote:
		a.Kind = msg.Voted
		a.OK = own && (m.s.Vote == 0 || m.s.Vote == x.From) && entry.Newer(m.s.Log, x.Index, x.LogTerm)
		if a.OK {
			m.way("votes")
			m.s.Vote = x.From
			m.waits(draw)
		}
		m.told = append(m.told, a)
	case msg.Voted:
		if m.v.Role == raft.Candidate && own && x.OK {
			m.voted[x.From] = true
			if m.majority(func(who int) bool { return m.voted[who] }) {
				m.leads()
			}
		}
	case msg.Append:
		m.append(x, a, draw)
	case msg.Piece:
		m.piece(x, a, draw)
	default:
		if m.v.Role == raft.Leader && own {
			m.know(x.From)
			m.round[x.From] = max(m.round[x.From], x.Round)
			m.answer(x)
		}
	}
}

func (m *model) append(x, a msg.Msg, draw int) {
	a.Kind = msg.Added
	if x.Term < m.s.Term {
		m.told = append(m.told, a)
		return
	}
	for _, e := range x.Entries {
		if _, err := conf.Decode(e.Data); e.Kind == entry.Member && err != nil {
			m.way("no members")
			return
		}
	}
	m.follows(x.From)
	m.waits(draw)
	for _, e := range x.Entries {
		if e.Index > m.s.Log.Base && e.Index <= m.v.Commit && m.termOf(e.Index) != e.Term {
			m.way("contradicts")
			return
		}
	}
	l, index, ok := entry.Merge(m.s.Log, x.Index, x.LogTerm, x.Entries)
	a.OK, a.Index, a.Round = ok, index, x.Round
	if ok {
		m.way("merges")
		m.s.Log = l
		if n := min(x.Commit, index); n > m.v.Commit {
			m.way("is told what is committed")
			m.v.Commit = n
		}
	}
	m.told = append(m.told, a)
}

func (m *model) piece(x, a msg.Msg, draw int) {
	a.Kind, a.Index = msg.Pieced, x.Index
	if x.Term < m.s.Term {
		m.told = append(m.told, a)
		return
	}
	a.Round = x.Round
	m.follows(x.From)
	m.waits(draw)
	if x.Index <= m.v.Commit {
		m.way("has it already")
		a.OK = true
		m.told = append(m.told, a)
		return
	}
	fits := x.Off == 0 || m.key == x.Index && x.Off == len(m.have)
	if x.Off == 0 {
		m.key, m.have = x.Index, nil
	}
	if !fits || !x.OK {
		if fits {
			m.way("has a piece")
			m.have = slices.Concat(m.have, x.Data)
		}
		if m.key == x.Index {
			a.Off = len(m.have)
		}
		m.told = append(m.told, a)
		return
	}
	text := slices.Concat(m.have, x.Data)
	m.have = nil
	if x.LogTerm == 0 {
		m.way("of no term")
		return
	}
	if l, snap, ok := unhanded(text); ok {
		m.way("takes a text")
		a.OK = true
		m.s.Conf, m.s.Snap = l, snap
		if m.termOf(x.Index) == x.LogTerm {
			m.way("keeps what is behind a text")
			m.s.Log, _ = entry.Compact(m.s.Log, x.Index)
		} else {
			m.s.Log = entry.Log{Base: x.Index, Term: x.LogTerm}
		}
		m.v.Commit = x.Index
	} else {
		m.way("takes no text")
	}
	m.told = append(m.told, a)
}

// unhanded finds the members and the text of which a text is the handed text.
func unhanded(text []byte) (conf.Conf, []byte, bool) {
	for _, l := range drawnMembers {
		head := handedText(l, nil)
		head = head[:len(head)-3]
		if !bytes.HasPrefix(text, head) {
			continue
		}
		if at := bytes.IndexByte(text[len(head):], ':'); at >= 0 {
			snap := text[len(head)+at+1:]
			return l, snap, bytes.Equal(handedText(l, snap), text)
		}
	}
	return nil, nil, false
}

func (m *model) answer(x msg.Msg) {
	who := x.From
	last, _ := m.last()
	switch {
	case x.OK:
		was := m.match[who]
		m.match[who] = max(was, min(x.Index, last))
		m.next[who] = max(m.next[who], m.match[who]+1)
		m.advance()
		if m.v.Role == raft.Leader && m.match[who] > was && m.next[who] <= last {
			m.way("sends the rest")
			m.send(who)
		}
	case x.Kind == msg.Added:
		m.next[who] = max(min(x.Index+1, m.next[who]-1), m.match[who]+1)
		m.off[who] = 0
		m.send(who)
	case x.Index == m.s.Log.Base && m.next[who] <= m.s.Log.Base:
		m.way("is told how much came")
		m.off[who] = x.Off
		if x.Off >= len(m.handed()) {
			m.off[who] = 0
		}
		m.send(who)
	}
}

// propose is RA4's.
func (m *model) propose(kind int, data []byte) (int, error) {
	if m.v.Role != raft.Leader {
		return 0, api.ErrLead
	}
	if kind == entry.Member {
		at, now := m.memberUpTo(api.MaxIndex)
		if at > m.v.Commit || m.termOf(m.v.Commit) != m.s.Term {
			return 0, api.ErrWait
		}
		l, err := conf.Decode(data)
		if err != nil || slices.Equal(l, now) || !conf.Near(l, now) {
			return 0, api.ErrArg
		}
		m.way("changes members")
	}
	l, err := entry.Add(m.s.Log, m.s.Term, kind, data)
	if err != nil {
		return 0, err
	}
	m.s.Log = l
	index, _ := m.last()
	m.sendAll()
	m.advance()
	return index, nil
}

func (m *model) read() (int, int, error) {
	if m.v.Role != raft.Leader {
		return 0, 0, api.ErrLead
	}
	if m.termOf(m.v.Commit) != m.s.Term {
		return 0, 0, api.ErrWait
	}
	m.v.Round++
	m.sendAll()
	return m.v.Round, m.v.Commit, nil
}

func (m *model) heard(round int) bool {
	answered := func(who int) bool { return who == m.id || m.knows[who] && m.round[who] >= round }
	return m.v.Role == raft.Leader && round >= 1 && round <= m.v.Round && m.majority(answered)
}

func (m *model) compact(index int, snap []byte) error {
	if index > m.v.Commit {
		return api.ErrRange
	}
	if len(snap) > api.MaxBytes-1024 {
		return api.ErrLong
	}
	l, err := entry.Compact(m.s.Log, index)
	if err != nil {
		return err
	}
	_, m.s.Conf = m.memberUpTo(index)
	m.s.Log, m.s.Snap, m.off = l, snap, [65]int{}
	m.way("lets go")
	return nil
}

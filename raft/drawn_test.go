package raft_test

import (
	"fmt"
	"math/rand"
	"slices"
	"testing"

	"tollbar/api"
	"tollbar/conf"
	"tollbar/entry"
	"tollbar/msg"
	"tollbar/raft"
)

// drawnMembers are the members that drawn runs have.
var drawnMembers = []conf.Conf{{1}, {1, 2}, {1, 2, 3}, {2, 3}, {1, 3}, {1, 2, 3, 4}, {2, 3, 4}, {1, 2, 3, 4, 5}, {1, 2, 3, 5}}

// drawn is a run in which a member and its model are handed the same.
type drawn struct {
	*rand.Rand
	t     *testing.T
	c     *raft.Core
	m     *model
	text  []byte // of which pieces come
	push  int    // for so many steps all goes to make it lead
	rough bool   // whether what is handed in and answered is written over behind each step
	lines []string
}

// part tells whether something happens that does so in so many of a hundred.
func (d *drawn) part(n int) bool { return d.Intn(100) < n }

// near is a number around another one, not below 0.
func (d *drawn) near(n int) int {
	if d.part(60) {
		return n
	}
	return max(0, n+d.Intn(6)-3)
}

func (d *drawn) members() conf.Conf { return drawnMembers[d.Intn(len(drawnMembers))] }

// data is what an entry of a kind has as its data.
func (d *drawn) data(kind int) []byte {
	switch {
	case kind != entry.Member:
		return snapOf(d.Intn(4))
	case d.part(5):
		return []byte("x")
	case d.part(50):
		l, _ := conf.Remove(d.m.conf(), 1+d.Intn(5))
		return conf.Encode(l)
	}
	return conf.Encode(d.members())
}

func (d *drawn) kind() int {
	if d.part(30) {
		return entry.Member
	}
	return d.Intn(2)
}

// draw is a draw of whatever size.
func (d *drawn) draw() int {
	if d.part(50) {
		return d.Intn(20)
	}
	return int(d.Uint64())
}

// entries are such that may stand behind an index and a term, up to a greatest one; its own as long as it has them, but for some.
func (d *drawn) entries(index, term, most int) []entry.Entry {
	var l []entry.Entry
	n := d.Intn(4)
	if d.part(5) {
		n = d.Intn(25)
	}
	for range n {
		index++
		if e, err := entry.At(d.m.s.Log, index); err == nil && e.Term >= term && e.Term <= most && !d.part(15) {
			l, term = append(l, e), e.Term
			continue
		}
		term = min(term+max(0, d.Intn(4)-2), most)
		kind := d.kind()
		l = append(l, entry.Entry{Index: index + d.Intn(40)/39, Term: max(term, 1) + d.Intn(60)/59, Kind: kind, Data: d.data(kind)})
	}
	return l
}

// stored is what a member may have kept.
func (d *drawn) stored() raft.Stored {
	s := raft.Stored{Vote: d.Intn(6), Conf: d.members(), Snap: snapOf(d.Intn(3) * d.Intn(1200))}
	if d.part(40) {
		s.Log.Base, s.Log.Term = 1+d.Intn(4), 1+d.Intn(2)
	}
	for range d.Intn(6) {
		index, term := entry.Last(s.Log)
		kind := d.kind()
		e := entry.Entry{Index: index + 1, Term: max(1, term+d.Intn(3)/2), Kind: kind, Data: conf.Encode(d.members())}
		s.Log.L = append(s.Log.L, e)
	}
	_, term := entry.Last(s.Log)
	s.Term = term + d.Intn(3)
	return s
}

// likely is a kind of message that a member of its role likely hears.
func (d *drawn) likely() int {
	switch {
	case d.m.v.Role == raft.Candidate && (d.push > 0 || d.part(60)):
		return msg.Voted
	case d.m.v.Role == raft.Leader && (d.push > 0 || d.part(70)):
		return msg.Added
	case d.m.v.Role == raft.Leader && d.part(85):
		return msg.Pieced
	case d.m.v.Role == raft.Follower && d.part(50):
		return []int{msg.Append, msg.Append, msg.Piece}[d.Intn(3)]
	}
	return 1 + d.Intn(msg.MaxKind)
}

// from is whom a message is of: of a leader's others mostly one of its members, and one that needs pieces more often.
func (d *drawn) from() int {
	for range 4 {
		who := 1 + d.Intn(5)
		needs := d.m.v.Role == raft.Leader && d.m.knows[who] && d.m.next[who] <= d.m.s.Log.Base
		if who != d.m.id && (needs || d.part(40)) {
			return who
		}
	}
	return 1 + d.Intn(5)
}

// message is one that might come.
func (d *drawn) message() msg.Msg {
	last, _ := d.m.last()
	x := msg.Msg{Kind: d.likely(), From: d.from(), To: d.m.id, Term: d.m.s.Term, Round: d.near(d.m.v.Round), OK: d.part(70)}
	if d.part(8) {
		x.Term += d.Intn(4) - 2
	}
	x.Index = d.m.s.Log.Base + d.Intn(last-d.m.s.Log.Base+2)
	if d.part(15) {
		x.Index = d.Intn(last + 3)
	}
	x.LogTerm = max(0, d.m.termOf(x.Index))
	if d.part(20) {
		x.LogTerm = d.Intn(max(0, x.Term) + 2)
	}
	x.Commit = d.near(d.m.v.Commit)
	switch x.Kind {
	case msg.Append:
		x.Entries = d.entries(x.Index, x.LogTerm, x.Term)
	case msg.Piece:
		d.piece(&x)
	case msg.Pieced:
		x.OK = d.part(20)
		if d.part(75) {
			x.Index = d.m.s.Log.Base
		}
		x.Off = []int{0, 1024, 2048, d.Intn(3000)}[d.Intn(4)]
	case msg.Added:
		if d.m.knows[x.From] && d.part(50) {
			x.Index = max(0, d.m.next[x.From]+d.Intn(5)-2)
		}
	}
	if d.part(2) {
		x.To = 1 + d.Intn(5)
	}
	return x
}

// piece makes a message a piece of a text that may be under way already.
func (d *drawn) piece(x *msg.Msg) {
	if d.m.key > d.m.v.Commit && d.part(75) {
		x.Index, x.Off = d.m.key, len(d.m.have)
	} else if d.part(60) {
		x.Index = d.m.v.Commit + 1 + d.Intn(4)
	}
	if d.part(10) {
		x.Off = d.Intn(2000)
	}
	if d.part(60) {
		x.LogTerm = max(0, min(d.m.termOf(x.Index), x.Term))
	} else {
		x.LogTerm = d.Intn(max(0, x.Term) + 1)
	}
	if len(d.m.have) == 0 {
		d.text = handedText(d.members(), snapOf(d.Intn(3)*d.Intn(1200)))
		if d.part(10) {
			d.text = append(d.text, 'x')
		}
	}
	off := min(x.Off, len(d.text))
	n := min(len(d.text)-off, 1+d.Intn(1500))
	x.Data, x.OK = d.text[off:off+n], off+n == len(d.text)
	if d.part(5) {
		x.OK = !x.OK
	}
}

// say keeps what was done, to be told if it fails.
func (d *drawn) say(format string, what ...any) {
	d.lines = append(d.lines, short(fmt.Sprintf(format, what...)))
}

// do does one thing with both: what it told.
func (d *drawn) do() []msg.Msg {
	n := d.Intn(100)
	d.push = max(d.push-1, d.Intn(1000)/985*25)
	if d.push > 0 && d.m.v.Role == raft.Follower {
		n = 0
	} else if d.push > 0 {
		n = 35 + d.Intn(60)
	}
	switch {
	case n < 35:
		draw := d.draw()
		d.say("Tick %d", draw)
		d.m.tick(draw)
		return d.c.Tick(draw)
	case n < 80:
		x, draw := d.message(), d.draw()
		d.say("Step %s, %d", shownMsg(x), draw)
		d.m.step(x, draw)
		return d.handMsg(x, draw)
	case n < 90:
		kind := d.kind()
		data := d.data(kind)
		d.say("Propose %d %q", kind, data)
		index, err := d.m.propose(kind, data)
		i, l, e := d.handProposed(kind, data)
		d.same("Propose", i, e, index, err)
		return l
	case n < 94:
		d.say("Read")
		round, index, err := d.m.read()
		r, i, l, e := d.c.Read()
		d.same("Read", r, e, round, err)
		d.same("Read", i, e, index, err)
		return l
	case n < 98:
		index := d.m.v.Commit - d.Intn(4) + d.Intn(5)/4
		snap := snapOf(d.Intn(3) * d.Intn(1200))
		d.say("Compact %d, %d", index, len(snap))
		d.same("Compact", 0, d.handSnap(index, snap), 0, d.m.compact(index, snap))
		return nil
	}
	draw := d.draw()
	d.say("New %d", draw)
	d.m = begins(d.m.id, d.m.span, d.m.s, draw, d.m.seen)
	d.handStored(d.m.id, d.m.span, d.c.Stored(), draw)
	return nil
}

// same looks at a number and an error.
func (d *drawn) same(what string, n int, err error, wantN int, want error) {
	if n != wantN || err != want {
		d.fail(fmt.Sprintf("%s: %d, %v, not %d, %v", what, n, err, wantN, want))
	}
}

// fail tells what was done last.
func (d *drawn) fail(what string) {
	d.t.Helper()
	for _, s := range d.lines[max(0, len(d.lines)-12):] {
		d.t.Log(s)
	}
	d.t.Fatal(short(what))
}

// look holds all that can be seen of the member against the model.
func (d *drawn) look(told []msg.Msg) {
	d.t.Helper()
	if g, w := shownMsgs(told), shownMsgs(d.m.told); g != w {
		d.fail(fmt.Sprintf("it tells%s\nnot%s", short(g), short(w)))
	}
	want := fmt.Sprintf("%s; %s; %v", shownView(d.m.v), shownStored(d.m.s), d.m.conf())
	if got := shown(d.c); got != want {
		d.fail(fmt.Sprintf("it is %s, not\n%s", short(got), short(want)))
	}
	for round := -1; round < d.m.v.Round+3; round++ {
		if g, w := d.c.Heard(round), d.m.heard(round); g != w {
			d.fail(fmt.Sprintf("Heard of %d: %v, not %v", round, g, w))
		}
		if d.m.heard(round) {
			d.m.way("has heard")
		}
	}
	for _, m := range told {
		if msg.Check(m) != nil {
			d.fail("it tells what may not be: " + shownMsg(m))
		}
	}
}

// run does so many things, and looks behind each.
func (d *drawn) run(n int) {
	d.t.Helper()
	for range n {
		d.m.told = nil
		told := d.do()
		d.look(told)
		if d.rough {
			d.spoil(told)
		}
	}
}

// TestDrawn: members and their models, handed the same: what is told, kept and seen is the same, step by step.
func TestDrawn(t *testing.T) {
	seen := map[string]int{}
	for seed := range 900 {
		d := &drawn{Rand: rand.New(rand.NewSource(int64(seed))), t: t}
		id, span, draw, s := 1+d.Intn(4), 2+d.Intn(8), d.draw(), d.stored()
		if seed%20 == 0 {
			s.Term = api.MaxIndex - d.Intn(3)
		}
		d.say("seed %d: New %d %d %s %d", seed, id, span, shownStored(s), draw)
		d.m = begins(id, span, s, draw, seen)
		d.handStored(id, span, s, draw)
		d.run(150)
	}
	ways := []string{
		"heart", "greatest term", "may not stand", "stands though it is out", "stands", "leads", "sends a piece", "of an older term", "commits",
		"leads no more, as it is out", "not heard", "not heard for an entry", "votes", "no members", "contradicts", "merges", "is told what is committed", "has it already",
		"has a piece", "of no term", "takes a text", "keeps what is behind a text", "takes no text", "sends the rest", "is told how much came", "changes members", "lets go", "has heard",
	}
	for _, w := range ways {
		if seen[w] < 20 {
			t.Errorf("this way was gone %d times alone: %s", seen[w], w)
		}
	}
	for w, n := range seen {
		if !slices.Contains(ways, w) {
			t.Errorf("this way was gone %d times, and is not in the list: %s", n, w)
		}
		t.Logf("%s: %d", w, n)
	}
}

package raft_test

import (
	"fmt"
	"math/rand"
	"slices"
	"strings"
	"testing"

	"tollbar/conf"
	"tollbar/entry"
	"tollbar/msg"
	"tollbar/raft"
)

// list is a list that is handed in or answered, its spare room too.
type list struct {
	same   func() bool      // whether it is as it was
	mark   func(n int)      // writes over all of it
	marked func(n int) bool // whether all of it is so still
}

// whole is a list of numbers.
func whole[T byte | int](l []T) list {
	return wholeOf(l, func(n int) T { return T(n) }, func(a, b T) bool { return a == b })
}

// wholeOf is a list of anything, of which each is written over by what a number makes.
func wholeOf[T any](l []T, make func(n int) T, equal func(a, b T) bool) list {
	l = l[:cap(l)]
	before := slices.Clone(l)
	same := func() bool { return slices.EqualFunc(l, before, equal) }
	mark := func(n int) {
		for i := range l {
			l[i] = make(n)
		}
	}
	other := func(n int) func(x T) bool { return func(x T) bool { return !equal(x, make(n)) } }
	return list{same, mark, func(n int) bool { return !slices.ContainsFunc(l, other(n)) }}
}

// roomy is a list with spare room, in which something stands.
func roomy[T any](l []T, other T) []T {
	own := append(make([]T, 0, len(l)+5), l...)
	for i := len(own); i < cap(own); i++ {
		own[:cap(own)][i] = other
	}
	return own
}

// entryOther is an entry that stands in no log.
var entryOther = entry.Entry{Index: -7, Term: -7, Data: []byte("!")}

// roomyEntries are entries with spare room everywhere.
func roomyEntries(l []entry.Entry) []entry.Entry {
	own := roomy(l, entryOther)
	for i := range l {
		own[i].Data = roomy(l[i].Data, '~')
	}
	return own
}

// listsOfEntries are the lists of entries.
func listsOfEntries(l []entry.Entry) []list {
	var all []list
	for _, e := range l {
		all = append(all, whole(e.Data))
	}
	make := func(n int) entry.Entry { return entry.Entry{Index: -n} }
	return append(all, wholeOf(l, make, func(a, b entry.Entry) bool {
		return a.Index == b.Index && a.Term == b.Term && a.Kind == b.Kind && len(a.Data) == len(b.Data)
	}))
}

// listsOfMsgs are the lists of messages.
func listsOfMsgs(l []msg.Msg) []list {
	var all []list
	for _, m := range l {
		all = append(all, whole(m.Data))
		all = append(all, listsOfEntries(m.Entries)...)
	}
	make := func(n int) msg.Msg { return msg.Msg{Kind: -n} }
	return append(all, wholeOf(l, make, func(a, b msg.Msg) bool {
		return a.Kind == b.Kind && a.To == b.To && a.Term == b.Term && len(a.Data) == len(b.Data) && len(a.Entries) == len(b.Entries)
	}))
}

// listsOfStored are the lists of what is kept.
func listsOfStored(s raft.Stored) []list {
	return append(listsOfEntries(s.Log.L), whole(s.Conf), whole(s.Snap))
}

// spoilAll writes over all lists, each with marks of its own: where two share memory, one has the other's.
func spoilAll(t *testing.T, what string, l []list) {
	t.Helper()
	for _, mark := range []func(i int) int{func(i int) int { return i % 250 }, func(i int) int { return i / 250 }} {
		for i, x := range l {
			x.mark(mark(i))
		}
		for i, x := range l {
			if !x.marked(mark(i)) {
				t.Fatalf("%s: two lists share memory", what)
			}
		}
	}
}

// handed hands lists in: they must not be changed by it; behind it they are written over.
func (d *drawn) handed(what string, l []list, hand func()) {
	d.t.Helper()
	hand()
	if slices.ContainsFunc(l, func(x list) bool { return !x.same() }) {
		d.fail(what + ": an argument was changed")
	}
	if d.rough {
		spoilAll(d.t, what, l)
	}
}

// handStored makes the member of what was kept.
func (d *drawn) handStored(id, span int, s raft.Stored, draw int) {
	s.Log.L = roomyEntries(s.Log.L)
	s.Conf, s.Snap = roomy(s.Conf, -9), roomy(s.Snap, '~')
	d.handed("New", listsOfStored(s), func() { d.c = begin(d.t, id, span, s, draw) })
}

// handMsg hands a message to the member.
func (d *drawn) handMsg(m msg.Msg, draw int) (told []msg.Msg) {
	m.Data, m.Entries = roomy(m.Data, '~'), roomyEntries(m.Entries)
	d.handed("Step", listsOfMsgs([]msg.Msg{m}), func() { told = d.c.Step(m, draw) })
	return told
}

// handProposed proposes.
func (d *drawn) handProposed(kind int, data []byte) (index int, told []msg.Msg, err error) {
	data = roomy(data, '~')
	d.handed("Propose", []list{whole(data)}, func() { index, told, err = d.c.Propose(kind, data) })
	return index, told, err
}

// handSnap lets entries go.
func (d *drawn) handSnap(index int, snap []byte) (err error) {
	snap = roomy(snap, '~')
	d.handed("Compact", []list{whole(snap)}, func() { err = d.c.Compact(index, snap) })
	return err
}

// spoil writes over all that was answered: the member must not change by it, nor what it answers again.
func (d *drawn) spoil(told []msg.Msg) {
	d.t.Helper()
	before := shown(d.c)
	first, second := d.c.Stored(), d.c.Stored()
	l := slices.Concat(listsOfMsgs(told), listsOfStored(first), listsOfStored(second), []list{whole(d.c.Conf()), whole(d.c.Conf())})
	spoilAll(d.t, "what is answered", l)
	if got := shown(d.c); got != before {
		d.fail(fmt.Sprintf("behind a change of what was answered it is %s, not %s", short(got), short(before)))
	}
}

// TestRule3: neither an argument nor an answer is shared or changed.
func TestRule3(t *testing.T) {
	seen := map[string]int{}
	for seed := range 150 {
		d := &drawn{Rand: rand.New(rand.NewSource(int64(1000 + seed))), t: t, rough: true}
		id, span, draw, s := 1+d.Intn(4), 2+d.Intn(4), d.draw(), d.stored()
		d.say("seed %d: New %d %d %s %d", seed, id, span, shownStored(s), draw)
		d.m = begins(id, span, s, draw, seen)
		d.handStored(id, span, s, draw)
		d.spoil(nil)
		d.run(150)
	}
	for _, w := range []string{"sends a piece", "takes a text", "merges", "leads", "changes members", "lets go", "has a piece", "sends the rest"} {
		if seen[w] < 10 {
			t.Errorf("this way was gone %d times alone: %s", seen[w], w)
		}
	}
}

// TestRule3Same: what all others are sent at once is not shared, be it entries or pieces.
func TestRule3Same(t *testing.T) {
	c, told := leading(t, 1, 4, raft.Stored{Term: 3, Log: logOf(5, 3, 3), Conf: all(7), Snap: snapOf(2000)})
	spoilAll(t, "Step", listsOfMsgs(told))
	for who := 2; who <= 4; who++ {
		spoilAll(t, "Step", listsOfMsgs(added(c, 1, who, false, 0)))
	}
	l := c.Tick(0)
	pieces, entries := 0, 0
	for _, m := range l {
		pieces += min(len(m.Data), 1)
		entries += min(len(m.Entries), 1)
	}
	if pieces != 3 || entries != 3 {
		t.Errorf("its heart tells%s", short(shownMsgs(l)))
	}
	spoilAll(t, "Tick", listsOfMsgs(l))
	_, l, err := c.Propose(entry.Order, []byte("abc"))
	if err != nil || len(l) != 6 {
		t.Errorf("Propose: %v", err)
	}
	spoilAll(t, "Propose", listsOfMsgs(l))
	for who := 5; who <= 7; who++ {
		spoilAll(t, "Step", listsOfMsgs(added(c, 1, who, true, 8)))
	}
	_, _, l, err = c.Read()
	if err != nil || len(l) != 6 {
		t.Errorf("Read: %v", err)
	}
	spoilAll(t, "Read", listsOfMsgs(l))
	keeps(t, "it", c, raft.Stored{Term: 4, Vote: 1, Log: with(logOf(5, 3, 3), emptyOf(7, 4), entry.Entry{Index: 8, Term: 4, Kind: entry.Order, Data: []byte("abc")}), Conf: all(7), Snap: snapOf(2000)})
}

// TestRule3Nil: nil and the empty list are the same.
func TestRule3Nil(t *testing.T) {
	run := func(none []byte, nobody []entry.Entry) string {
		c := begin(t, 1, 4, raft.Stored{Log: entry.Log{L: nobody}, Conf: all(3), Snap: none}, 0)
		told := c.Step(msg.Msg{Kind: msg.Append, From: 2, To: 1, Term: 1, Data: none, Entries: nobody}, 0)
		told = append(told, c.Step(msg.Msg{Kind: msg.Append, From: 2, To: 1, Term: 1, Entries: []entry.Entry{{Index: 1, Term: 1, Kind: 1, Data: none}}}, 0)...)
		told = append(told, c.Step(msg.Msg{Kind: msg.Piece, From: 2, To: 1, Term: 1, Index: 9, LogTerm: 1, Data: none, OK: true}, 0)...)
		told = append(told, waits(t, "it", c, 4, 0)...)
		told = append(told, voted(c, 1, 2)...)
		_, l, err := c.Propose(entry.Order, none)
		return fmt.Sprint(shownMsgs(append(told, l...)), err, c.Compact(0, none), shown(c))
	}
	if a, b := run(nil, nil), run([]byte{}, []entry.Entry{}); a != b {
		t.Errorf("nil: %s\nempty: %s", a, b)
	}
	var nobody conf.Conf
	for _, l := range []conf.Conf{nobody, {}} {
		refused(t, "nobody", 1, 4, raft.Stored{Conf: l})
	}
}

// TestRule4: the same calls answer the same, in whatever order a map is gone over.
func TestRule4(t *testing.T) {
	run := func(seed int) string {
		d := &drawn{Rand: rand.New(rand.NewSource(int64(seed))), t: t}
		var b strings.Builder
		d.c, _ = leading(t, 1, 8, raft.Stored{Term: 1, Log: logOf(0, 0, 1, 1), Conf: all(7)})
		for range 60 {
			m := msg.Msg{Kind: msg.Added, From: 2 + d.Intn(9), To: 1, Term: 2, OK: d.part(80), Index: d.Intn(6), Round: d.Intn(5)}
			b.WriteString(shownMsgs(d.c.Step(m, 0)))
			_, l, err := d.c.Propose(entry.Order, nil)
			fmt.Fprint(&b, shownMsgs(l), err)
			round, index, l, err := d.c.Read()
			fmt.Fprint(&b, round, index, shownMsgs(l), err, d.c.Heard(1), d.c.Heard(3), shown(d.c), d.c.Compact(d.Intn(4), nil))
			if d.part(10) {
				b.WriteString(shownMsgs(d.c.Tick(d.Intn(9))))
			}
		}
		return b.String()
	}
	for seed := range 10 {
		want := run(seed)
		for range 5 {
			if run(seed) != want {
				t.Fatalf("seed %d: the same calls answered otherwise", seed)
			}
		}
	}
}

// TestRule4Apart: two members share nothing: what is done to one is not seen at the other.
func TestRule4Apart(t *testing.T) {
	s := raft.Stored{Term: 1, Log: logOf(0, 0, 1, 1), Conf: all(3), Snap: []byte("abc")}
	a, b := begin(t, 1, 4, s, 0), begin(t, 1, 4, s, 0)
	before := shown(b)
	waits(t, "a", a, 4, 0)
	voted(a, 1, 2)
	a.Propose(entry.Order, []byte("x"))
	added(a, 1, 2, true, 4)
	a.Compact(2, []byte("y"))
	if got := shown(b); got != before {
		t.Errorf("it is %s, not %s", got, before)
	}
	waits(t, "b", b, 4, 0)
}

package server_test

import (
	"fmt"
	"math/rand"
	"slices"
	"strconv"
	"testing"

	"tollbar/api"
	"tollbar/client"
	"tollbar/conf"
	"tollbar/disk"
	"tollbar/entry"
	"tollbar/msg"
	"tollbar/order"
	"tollbar/quota"
	"tollbar/raft"
	"tollbar/server"
	"tollbar/session"
)

// drawn is a run in which a member and its model are handed the same, each on a disk of its own.
type drawn struct {
	*rand.Rand
	t      *testing.T
	c      server.Config
	s      *server.Server
	m      *model
	d, e   *disk.Disk
	number int
	push   int  // for so many steps all goes to make it lead
	rough  bool // whether what is handed in and answered is written over behind each step
	lines  []string
}

// part tells whether something happens that does so in so many of a hundred.
func (y *drawn) part(n int) bool { return y.Intn(100) < n }

// near is a number around another one, not below 0.
func (y *drawn) near(n int) int {
	if y.part(60) {
		return n
	}
	return max(0, n+y.Intn(6)-3)
}

// draw is a draw of whatever size.
func (y *drawn) draw() int {
	if y.part(50) {
		return y.Intn(20)
	}
	return int(y.Uint64())
}

func (y *drawn) say(format string, what ...any) {
	y.lines = append(y.lines, short(fmt.Sprintf(format, what...)))
}

func (y *drawn) fail(format string, what ...any) {
	y.t.Helper()
	for _, s := range y.lines[max(0, len(y.lines)-12):] {
		y.t.Log(s)
	}
	y.t.Fatalf(format, what...)
}

// order is an order, of few names, so that they meet; some are such that may not be.
func (y *drawn) order() order.Order {
	o := order.Order{Kind: 1 + y.Intn(6)}
	if y.part(5) {
		o.Kind = y.Intn(9) - 1
	}
	o.Node = node(string(rune('a'+y.Intn(3))), y.Intn(9))
	o.Use.ID, o.Use.Node, o.Use.Amount = strconv.Itoa(y.Intn(4)), o.Node.Name, complex(float64(y.Intn(5)), float64(y.Intn(5)))
	if y.part(3) {
		o.Use.ID = "an identity of more than 32 bytes, or a blank"
	}
	return o
}

// command is a command, mostly of a session that is there, and its next one.
func (y *drawn) command() session.Command {
	l := y.m.table.Sessions()
	if len(l) == 0 || y.part(20) {
		return session.Command{Kind: []int{session.Open, session.Open, session.Open, session.Close, session.Ask, 0, 9}[y.Intn(7)], Session: y.Intn(5), Seq: y.Intn(3), Order: y.order()}
	}
	c := session.Command{Kind: session.Ask, Session: l[y.Intn(len(l))], Order: y.order()}
	last, _, _ := y.m.table.Last(c.Session)
	c.Seq = y.near(last + 1)
	if y.part(3) {
		c.Kind = session.Close
	}
	return c
}

// request is one of either kind.
func (y *drawn) request() client.Request {
	y.number++
	r := client.Request{Client: y.Intn(5), Number: y.number, Command: y.command(), Reads: y.part(40)}
	if r.Reads && y.part(80) {
		r.Command.Order.Kind = order.Query
	}
	if y.part(1) {
		r.Command = tooLong()
	}
	return r
}

// members are such as are near, mostly.
func (y *drawn) members() conf.Conf {
	l, who := y.m.core.Conf(), 1+y.Intn(4)
	if y.part(15) {
		return []conf.Conf{nil, {1}, {1, 2, 3}, {2, 1}, {1, 2, 3, 4}, l}[y.Intn(6)]
	}
	if conf.Has(l, who) {
		l, _ = conf.Remove(l, who)
		return l
	}
	l, _ = conf.Add(l, who)
	return l
}

// entries are such as may stand behind an index and a term; its own as long as it has them, but for some.
func (y *drawn) entries(index, term, most int) []entry.Entry {
	var l []entry.Entry
	for range y.Intn(5) {
		index++
		if e, err := y.s.Entry(index); err == nil && e.Term >= term && e.Term <= most && !y.part(15) {
			l, term = append(l, e), e.Term
			continue
		}
		term = max(1, min(term+max(0, y.Intn(4)-2), most))
		e := ordered(index, term, y.command())
		if y.part(20) {
			e.Kind = y.Intn(3)
		}
		if e.Kind == entry.Member {
			e.Data = conf.Encode(conf.Conf{1, 2, 3}[:1+y.Intn(3)])
		}
		if e.Kind == entry.Order && y.part(10) {
			e.Data = []byte("?")
		}
		l = append(l, e)
	}
	return l
}

// text is a handed text, mostly of a table.
func (y *drawn) text() []byte {
	x := session.New()
	for i := range y.Intn(6) {
		x.Apply(1+i, session.Command{Kind: session.Open})
		x.Apply(1+i, session.Command{Kind: session.Ask, Session: 1, Seq: 1, Order: add("a")})
	}
	snap := x.Encode()
	if y.part(8) {
		snap = snap[:y.Intn(len(snap))]
	}
	return handed(conf.Conf{1, 2, 3}[:1+y.Intn(3)], snap)
}

// message is one that might come.
func (y *drawn) message() msg.Msg {
	v, s := y.m.core.View(), y.m.core.Stored()
	last, term := entry.Last(s.Log)
	m := msg.Msg{From: 2 + y.Intn(3), To: 1, Term: max(1, s.Term), Round: y.near(v.Round), OK: y.part(80)}
	if y.part(4) {
		m.To = 5
	}
	switch {
	case v.Role == raft.Candidate && (y.push > 0 || y.part(60)):
		m.Kind = msg.Voted
	case v.Role == raft.Leader && (y.push > 0 || y.part(70)):
		m.Kind, m.Index = msg.Added, min(v.Commit+y.Intn(3), last)
		if y.part(10) {
			m.Index = y.near(last)
		}
		if y.part(10) {
			m.Kind, m.Index = msg.Pieced, s.Log.Base
		}
	case y.part(15):
		m.Kind, m.Term, m.Index, m.LogTerm = msg.Vote, y.near(s.Term)+y.Intn(2)+1, y.near(last), min(term, s.Term)
	case y.part(94):
		m.Kind, m.Term = msg.Append, m.Term+y.Intn(2)
		m.Index = min(y.near(last), last)
		if y.part(60) {
			m.Index = min(v.Commit+y.Intn(2), last)
		}
		m.LogTerm, _ = entry.Term(s.Log, m.Index)
		m.Entries = y.entries(m.Index, m.LogTerm, m.Term)
		m.Commit = y.near(m.Index + len(m.Entries))
	default:
		m.Kind, m.Term, m.Index, m.LogTerm = msg.Piece, m.Term+y.Intn(2), y.near(last+1), max(1, term)
		m.Data = y.text()
		if e, err := y.s.Entry(m.Index); err == nil && y.part(70) {
			m.LogTerm = e.Term
		}
	}
	return m
}

// holds looks at a step's answer, at the member, and at both disks.
func (y *drawn) holds(what string, o server.Out, err error, p server.Out, fault error) {
	y.t.Helper()
	y.say("%s:%s %v", what, shownOut(o), err)
	if shownOut(o) != shownOut(p) || fmt.Sprint(err) != fmt.Sprint(fault) {
		y.fail("not%s %v", shownOut(p), fault)
	}
	for _, answered := range o.Answers {
		y.m.way("answered " + strconv.Itoa(answered.Err))
	}
	if err != nil && (o.To != nil || o.Frames != nil || o.Answers != nil) {
		y.fail("something is told beside an error")
	}
	if y.rough {
		y.spoilOut(o)
	}
	y.is()
}

// is holds the member against its model, and what is kept.
func (y *drawn) is() {
	y.t.Helper()
	if got, want := shown(y.s), y.m.shown(); got != want {
		y.fail("%s\nnot %s", got, want)
	}
	if bytesOf(y.t, y.d) != bytesOf(y.t, y.e) || y.d.Waits() != y.e.Waits() || y.d.Down() != y.e.Down() {
		y.fail("the disk is another one")
	}
	if y.s.Dead() == nil && shownStored(saved(y.t, y.d)) != shownStored(y.m.core.Stored()) {
		y.fail("what is kept is not saved: %s", shownStored(saved(y.t, y.d)))
	}
}

// again opens both again, whatever is kept; on an empty disk, where they can't be.
func (y *drawn) again() {
	keep := []int{y.Intn(3), y.Intn(500)}
	y.d.Start(keep)
	y.e.Start(keep)
	y.open()
}

func (y *drawn) open() {
	y.t.Helper()
	draw := y.draw()
	c := y.c
	if y.rough {
		c.First = roomy(c.First, 9)
	}
	s, err := server.Open(y.d, c, draw)
	m, fault := begins(y.e, y.c, draw, y.seen())
	y.say("Open: %v", err)
	if y.rough {
		spoil(c.First)
	}
	if fmt.Sprint(err) != fmt.Sprint(fault) || (s == nil) != (m == nil) {
		y.fail("not %v", fault)
	}
	if err != nil {
		y.d, y.e = disks(y.t, y.d.Size()), disks(y.t, y.d.Size())
		y.open()
		return
	}
	y.s, y.m = s, m
	y.is()
}

// seen are the ways that were gone.
func (y *drawn) seen() map[string]int {
	if y.m == nil {
		return map[string]int{}
	}
	return y.m.seen
}

// hear hands a frame over.
func (y *drawn) hear(b []byte, what string) {
	draw := y.draw()
	given := b
	if y.rough {
		given = roomy(b, '~')
	}
	o, err := y.s.Hear(given, draw)
	p, fault := y.m.hear(b, draw)
	if y.rough {
		y.same(what, given, b)
	}
	y.holds(what, o, err, p, fault)
}

// tick lets time go on.
func (y *drawn) tick() {
	draw := y.draw()
	o, err := y.s.Tick(draw)
	p, fault := y.m.tick(draw)
	y.holds("Tick", o, err, p, fault)
}

// ask asks for something.
func (y *drawn) ask() {
	r := y.request()
	o, err := y.s.Ask(r)
	p, fault := y.m.ask(r)
	y.holds(fmt.Sprintf("Ask %d %v %v", r.Number, r.Reads, r.Command.Order.Kind), o, err, p, fault)
}

// turn does one thing of those that can happen; while it is pushed, mostly what makes it lead, and lets much wait.
func (y *drawn) turn() {
	y.push--
	if y.push < -15 {
		y.push = 10 + y.Intn(20)
	}
	role := y.m.core.View().Role
	switch n := y.Intn(100); {
	case y.push > 0 && role == raft.Follower && n < 60, n < 12:
		y.tick()
	case y.push > 0 && role == raft.Leader && n < 70:
		y.ask()
	case n < 60:
		m := y.message()
		y.hear(msg.Seal(m), "Hear "+shownMsg(m))
	case n < 62:
		b := msg.Seal(y.message())
		b[y.Intn(len(b))] ^= byte(1 + y.Intn(255))
		y.hear(b, "Hear of no frame")
	case n < 92:
		y.ask()
	case n < 97:
		y.change()
	case n < 98:
		y.again()
	default:
		steps := y.Intn(20)
		y.d.Arm(steps)
		y.e.Arm(steps)
	}
	if y.m.dead != nil && y.part(40) {
		y.again()
	}
}

// change asks for other members.
func (y *drawn) change() {
	c := y.members()
	given := c
	if y.rough {
		given = roomy(c, 9)
	}
	o, err := y.s.Change(given)
	p, fault := y.m.change(c)
	if y.rough {
		y.same("Change", given, c)
	}
	y.holds(fmt.Sprint("Change ", c), o, err, p, fault)
}

// run is a run of its own.
func run(t *testing.T, seed, turns int, rough bool, seen map[string]int) *drawn {
	t.Helper()
	y := &drawn{Rand: rand.New(rand.NewSource(int64(seed))), t: t, rough: rough}
	size := []int{1 << 13, 1 << 13, 1 << 14, 1 << 11}[seed%4]
	y.c = server.Config{ID: 1, Span: 2 + y.Intn(5), First: conf.Conf{1, 2, 3, 4}[:1+y.Intn(4)], Most: 1 + y.Intn(12), Wait: 1 + y.Intn(12)}
	y.d, y.e = disks(t, size), disks(t, size)
	y.m = &model{seen: seen}
	y.open()
	for range turns {
		y.turn()
	}
	return y
}

// TestSV4Drawn: drawn steps of a member, held against the plain model: what is told, what is seen, and all bytes of the disk.
func TestSV4Drawn(t *testing.T) {
	seen := map[string]int{}
	for seed := range 200 {
		run(t, seed, 300, false, seen)
	}
	for what, n := range map[string]int{
		"done": 2000, "let go": 500, "a text": 100, "opened of a text": 100, "opened of no table": 10, "stopped by error 13": 100, "stopped by error 14": 10, "stopped by error 10": 20,
		"stopped by the second save": 20, "an index gone over": 20, "an index of another term": 20, "an index of its term": 500, "an index of its term, though it leads no more": 20,
		"a round that is lost": 50, "a round that is heard": 200, "no frame": 200, "Change": 50, "Change error 1": 20, "Change error 30": 100, "Change error 31": 20,
		"answered error 1": 50, "answered error 2": 5, "answered error 30": 500, "answered error 31": 50, "answered error 32": 200, "answered 0": 500,
	} {
		if seen[what] < n {
			t.Errorf("%s: %d times alone", what, seen[what])
		}
	}
	t.Log(seen)
}

// TestRule3Drawn: the same, where all that is handed in has spare room, and is written over behind the step, with all that is answered.
func TestRule3Drawn(t *testing.T) {
	for seed := range 100 {
		run(t, 1000+seed, 200, true, map[string]int{})
	}
}

// TestRule4: the same calls answer the same.
func TestRule4(t *testing.T) {
	for seed := range 20 {
		one, two := run(t, 2000+seed, 200, false, map[string]int{}), run(t, 2000+seed, 200, seed%2 == 1, map[string]int{})
		if !slices.Equal(one.lines, two.lines) || bytesOf(t, one.d) != bytesOf(t, two.d) {
			t.Errorf("seed %d: another run", seed)
		}
	}
}

// same looks at that a list that was handed in is as it was, with its spare room, and writes over it.
func (y *drawn) same(what string, given, l any) {
	y.t.Helper()
	switch given := given.(type) {
	case []byte:
		if !slices.Equal(given[:cap(given)], roomy(l.([]byte), '~')[:cap(given)]) {
			y.fail("%s: an argument was changed", what)
		}
		spoil(given)
	case conf.Conf:
		if !slices.Equal(given[:cap(given)], roomy(l.(conf.Conf), 9)[:cap(given)]) {
			y.fail("%s: an argument was changed", what)
		}
		spoil(given)
	}
}

// node is a node that may have a parent, and lend.
func node(name string, n int) quota.Node {
	x := quota.Node{Name: name, Own: complex(float64(n), float64(n))}
	if n > 6 {
		x.Parent = "a"
	}
	if n == 8 {
		x.Lend = api.MaxAmount
	}
	return x
}

package server_test

import (
	"fmt"
	"math/rand"
	"slices"
	"strconv"
	"testing"

	"tollbar/api"
	"tollbar/client"
	"tollbar/conf"
	"tollbar/disk"
	"tollbar/entry"
	"tollbar/msg"
	"tollbar/order"
	"tollbar/raft"
	"tollbar/seal"
	"tollbar/server"
	"tollbar/session"
)

// frame is one on its way to a member.
type frame struct {
	to int
	b  []byte
}

// letter is a request on its way to a member, or an answer on its way to a client.
type letter struct {
	to int
	r  client.Request
	a  client.Answer
}

// known is a request that was asked of a member, and is not answered.
type known struct {
	r     client.Request
	least int // what was done anywhere when it was asked
}

// many are members that share a log on disks, clients, what is on its way, and what was seen.
type many struct {
	*rand.Rand
	t        *testing.T
	c        server.Config
	s        []*server.Server // the member n stands at n
	d        []*disk.Disk
	clients  []client.Client
	way      []frame
	requests []letter
	answers  []letter
	done     []entry.Entry // what is committed; the index n stands at n
	tables   []string      // what comes of it
	replies  []session.Reply
	plain    *session.Table
	states   []*session.Table // tables of their own, as of each index
	leaders  map[int]int      // by term
	asked    []map[[2]int][]known
	given    map[int][2]int // to whom a session was given
	lines    []string
	count    map[string]int
}

// newMany are members of which the first ones share a log, and some clients.
func newMany(t *testing.T, seed, n, first int, count map[string]int) *many {
	y := &many{
		Rand: rand.New(rand.NewSource(int64(seed))), t: t, s: make([]*server.Server, n+1), d: make([]*disk.Disk, n+1),
		plain: session.New(), leaders: map[int]int{}, asked: make([]map[[2]int][]known, n+1), given: map[int][2]int{}, count: count,
	}
	y.c = with(of(1, first), 1+y.Intn(20), 3+y.Intn(10))
	y.c.Span = 3 + y.Intn(6)
	y.done, y.replies = make([]entry.Entry, 1), make([]session.Reply, 1)
	y.remember()
	for who := 1; who <= n; who++ {
		y.d[who] = disks(t, 1<<15)
		y.opens(who)
	}
	for id := range 3 {
		c, err := client.New(id+1, slices.Collect(func(yield func(int) bool) {
			for who := 1; who <= n && yield(who); who++ {
			}
		}))
		if err != nil {
			t.Fatal(err)
		}
		y.clients = append(y.clients, c)
	}
	y.say("seed %d: %d members, at first %d, %v", seed, n, first, y.c)
	return y
}

// remember keeps what the plain table is behind what is done.
func (y *many) remember() {
	b := y.plain.Encode()
	own, err := session.Decode(b)
	if err != nil {
		y.t.Fatalf("Decode of a table: %v", err)
	}
	y.tables, y.states = append(y.tables, string(b)), append(y.states, own)
}

func (y *many) say(format string, what ...any) {
	y.lines = append(y.lines, short(fmt.Sprintf(format, what...)))
}

func (y *many) fail(format string, what ...any) {
	y.t.Helper()
	y.t.Log(y.lines[0])
	for _, s := range y.lines[max(1, len(y.lines)-15):] {
		y.t.Log(s)
	}
	y.t.Fatal(short(fmt.Sprintf(format, what...)))
}

// opens opens a member: what it was asked it has forgotten.
func (y *many) opens(who int) {
	y.t.Helper()
	c := y.c
	c.ID = who
	s, err := server.Open(y.d[who], c, y.Int())
	if err != nil {
		y.fail("Open of %d: %v", who, err)
	}
	y.s[who], y.asked[who] = s, map[[2]int][]known{}
	y.looksTable(who)
}

// entries is a member's log.
func (y *many) entries(who int) map[int]entry.Entry {
	l := map[int]entry.Entry{}
	for index := y.s[who].Applied() + 1; ; index++ {
		e, err := y.s[who].Entry(index)
		if err != nil {
			return l
		}
		l[index] = e
	}
}

// step does something with a member, looks at what comes of it, and sends that; more are the entries that it is handed.
func (y *many) step(who int, more []entry.Entry, do func(s *server.Server) (server.Out, error)) {
	y.t.Helper()
	s := y.s[who]
	dead := s.Dead() != nil
	log := y.entries(who)
	for _, e := range more {
		log[e.Index] = e
	}
	o, err := do(s)
	if err != nil && err != api.ErrForm && (s.Dead() == nil || err != api.ErrDown || o.To != nil || o.Answers != nil) {
		y.fail("a step of %d: %v, %s", who, err, shownOut(o))
	}
	if dead {
		return
	}
	y.looksDone(who, log) // also where the power went behind it
	if s.Dead() != nil {
		return
	}
	if v := s.View(); v.Role == raft.Leader {
		if other, ok := y.leaders[s.Term()]; ok && other != who {
			y.fail("in the term %d both %d and %d lead", s.Term(), other, who)
		}
		y.leaders[s.Term()] = who
	}
	for i, to := range o.To {
		y.way = append(y.way, frame{to, o.Frames[i]})
	}
	for _, a := range o.Answers {
		y.looksAnswer(who, a)
		y.answers = append(y.answers, letter{to: a.Client, a: a})
	}
}

// looksDone: what is committed is the same for all, and who has done the same has the same table.
func (y *many) looksDone(who int, log map[int]entry.Entry) {
	y.t.Helper()
	s := y.s[who]
	for len(y.done) <= s.Applied() {
		e, ok := log[len(y.done)]
		if now, err := s.Entry(len(y.done)); err == nil {
			e, ok = now, true
		}
		if !ok {
			y.fail("%d has done %d, that nobody had", who, len(y.done))
		}
		y.done = append(y.done, e)
		var r session.Reply
		if c, err := session.DecodeCommand(e.Data); err == nil && e.Kind == entry.Order {
			r = y.plain.Apply(e.Index, c)
		}
		y.replies = append(y.replies, r)
		y.remember()
		y.count["done"]++
	}
	for index := s.Applied(); index > 0; index-- {
		e, err := s.Entry(index)
		if err != nil {
			break
		}
		if shownEntry(e) != shownEntry(y.done[index]) {
			y.fail("%d has done%s, not%s", who, shownEntry(e), shownEntry(y.done[index]))
		}
	}
	y.looksTable(who)
}

func (y *many) looksTable(who int) {
	y.t.Helper()
	if s := y.s[who]; string(s.Table()) != y.tables[s.Applied()] {
		y.fail("%d has done %d: %q, not %q", who, s.Applied(), s.Table(), y.tables[s.Applied()])
	}
}

// looksAnswer: it was asked for, and not answered since; what was done is what the plain table did, what was read is as of a moment behind its asking.
func (y *many) looksAnswer(who int, a client.Answer) {
	y.t.Helper()
	y.count[fmt.Sprint("answered ", a.Err)]++
	if a.Leader != y.s[who].View().Leader {
		y.fail("%d answers %s", who, shownAnswer(a))
	}
	key := [2]int{a.Client, a.Number}
	l := y.asked[who][key]
	if len(l) == 0 {
		y.fail("%d answers what nobody asked: %s", who, shownAnswer(a))
	}
	x := l[0]
	y.asked[who][key] = l[1:]
	switch {
	case a.Err != 0:
		if a.Reply != (session.Reply{}) || !slices.Contains([]int{1, 2, 30, 31, 32}, a.Err) {
			y.fail("%d answers %s", who, shownAnswer(a))
		}
	case x.r.Reads:
		y.looksRead(who, x, a)
	default:
		y.looksDid(who, x, a)
	}
}

// looksRead looks at a read's answer.
func (y *many) looksRead(who int, x known, a client.Answer) {
	y.t.Helper()
	for index := x.least; index < len(y.states); index++ {
		if (a.Reply == session.Reply{Answer: y.states[index].Read(x.r.Command.Order)}) {
			y.count["read"]++
			return
		}
	}
	y.fail("%d reads what is not there from %d to %d: %s", who, x.least, len(y.done)-1, shownAnswer(a))
}

// looksDid looks at a command's answer. No two are given the same session.
func (y *many) looksDid(who int, x known, a client.Answer) {
	y.t.Helper()
	data := string(session.EncodeCommand(x.r.Command))
	at := -1
	for index := 1; index <= y.s[who].Applied(); index++ {
		if e := y.done[index]; e.Kind == entry.Order && string(e.Data) == data && y.replies[index] == a.Reply {
			at = index
		}
	}
	if at < 0 {
		y.fail("%d answers what was not done: %s, %s", who, data, shownAnswer(a))
	}
	if x.r.Command.Kind == session.Open && a.Reply.Err == 0 {
		if _, ok := y.given[a.Reply.Session]; ok {
			y.fail("the session %d is given twice", a.Reply.Session)
		}
		y.given[a.Reply.Session] = [2]int{a.Client, a.Number}
		y.count["opened"]++
	}
	y.count["did"]++
}

// hands hands a frame to a member.
func (y *many) hands(f frame) {
	y.t.Helper()
	if f.to >= len(y.s) {
		return
	}
	m, err := msg.Open(f.b)
	if err == nil {
		y.count["kind "+strconv.Itoa(m.Kind)]++
	}
	y.say("Hear %d: %s %v", f.to, shownMsg(m), err)
	draw := y.Int()
	y.step(f.to, m.Entries, func(s *server.Server) (server.Out, error) { return s.Hear(f.b, draw) })
}

// asks asks a member.
func (y *many) asks(x letter) {
	y.t.Helper()
	who, key := x.to, [2]int{x.r.Client, x.r.Number}
	y.say("Ask %d: %d %d %v %v", who, x.r.Client, x.r.Number, x.r.Reads, x.r.Command)
	if y.s[who].Dead() == nil {
		y.asked[who][key] = append(y.asked[who][key], known{r: x.r, least: len(y.done) - 1})
	}
	y.step(who, nil, func(s *server.Server) (server.Out, error) { return s.Ask(x.r) })
}

// hears lets a client hear an answer.
func (y *many) hears(x letter) {
	if x.to < 1 || x.to > len(y.clients) {
		return
	}
	c, ok := client.Hear(y.clients[x.to-1], x.a)
	if y.clients[x.to-1] = c; ok {
		y.count["heard"]++
	}
	if !ok && c.Busy && y.Intn(2) == 0 {
		y.requests = append(y.requests, letter{to: c.Member, r: c.Now})
	}
}

// wants lets a client ask for something, or ask again, perhaps another member.
func (y *many) wants(id int) {
	c := y.clients[id]
	var err error
	switch {
	case c.Busy && y.Intn(2) == 0:
		c = client.Next(c)
	case c.Busy:
	case c.Session == 0:
		c, err = client.Open(c)
	default:
		c, err = client.Ask(c, y.order(id))
	}
	if err != nil {
		y.fail("client %d: %v", id+1, err)
	}
	y.clients[id] = c
	y.requests = append(y.requests, letter{to: c.Member, r: c.Now})
}

// order is something that a client asks for.
func (y *many) order(id int) order.Order {
	o := query(string(rune('a' + y.Intn(3))))
	if y.Intn(3) > 0 {
		o.Kind = 1 + y.Intn(6)
		o.Node.Own = complex(float64(y.Intn(9)), 9)
		o.Use.ID, o.Use.Node, o.Use.Amount = strconv.Itoa(y.Intn(9)), o.Node.Name, complex(float64(y.Intn(4)), 1)
	}
	return o
}

// odd is a request of nobody: one that is no command, one that is too long, one that says that it reads.
func (y *many) odd() client.Request {
	r := asks(9, len(y.lines), noCommand())
	switch y.Intn(4) {
	case 0:
		r.Command = tooLong()
	case 1:
		r = reads(9, r.Number, add("a"))
	case 2:
		r.Command = session.Command{Kind: session.Ask, Session: 1 + y.Intn(9), Seq: -1}
	}
	return r
}

// made is a frame that nobody sent, of such as nobody need fear: it tells of nothing that somebody has, of no vote and of no round.
func (y *many) made(who int) frame {
	from := 1 + y.Intn(len(y.s)-1)
	if from == who {
		from = 60
	}
	term := max(1, y.s[who].Term())
	m := msg.Msg{From: from, To: who, Term: term, Index: y.Intn(len(y.done) + 3)}
	switch y.Intn(8) {
	case 0:
		// Of a log that may be newer than its sender's only where that is none: who is made believe so votes for it.
		m.Kind, m.From, m.Term, m.LogTerm = msg.Vote, 60, term+y.Intn(2), min(term, y.Intn(9))
	case 1:
		m.Kind = msg.Voted
	case 2:
		m.Kind = msg.Added
	case 3:
		m.Kind, m.Off = msg.Pieced, y.Intn(3000)
	case 4:
		m.Kind, m.Index = msg.Append, 0
	case 5:
		m.Kind, m.From, m.OK, m.Round = msg.Added, 61, true, 1000
	case 6:
		m.Kind, m.Index, m.Data, m.LogTerm = msg.Piece, min(m.Index, y.s[who].View().Commit), []byte("?"), 1
	default:
		b, err := seal.Seal(109, []byte(strconv.Itoa(y.Int())))
		if err != nil {
			y.t.Fatal(err)
		}
		return frame{who, b}
	}
	return frame{who, msg.Seal(m)}
}

// spoilt is a frame with a bit turned, or cut.
func (y *many) spoilt(f frame) frame {
	b := slices.Clone(f.b)
	if y.Intn(3) == 0 {
		return frame{f.to, b[:y.Intn(len(b))]}
	}
	b[y.Intn(len(b))] ^= 1 << y.Intn(8)
	return frame{f.to, b}
}

// delivers delivers a frame: one of the oldest, now and then later, lost, doubled, or spoilt.
func (y *many) delivers(loss int) {
	y.t.Helper()
	if len(y.way) == 0 {
		return
	}
	at := y.Intn(min(len(y.way), 1+y.Intn(20)))
	f := y.way[at]
	switch n := y.Intn(100); {
	case n < loss || len(y.way) > 200:
		y.way = slices.Delete(y.way, at, at+1)
	case n < loss+8:
		y.hands(f) // and once more, later
	case n < loss+12:
		y.hands(y.spoilt(f))
	default:
		y.way = slices.Delete(y.way, at, at+1)
		y.hands(f)
	}
}

// post delivers a request or an answer, or loses it, or doubles it.
func (y *many) post(loss int) {
	y.t.Helper()
	if n := len(y.requests); n > 0 {
		at := y.Intn(n)
		x := y.requests[at]
		if y.Intn(100) >= 10 {
			y.requests = slices.Delete(y.requests, at, at+1)
		}
		if y.Intn(100) >= loss {
			y.asks(x)
		}
	}
	if n := len(y.answers); n > 0 {
		at := y.Intn(n)
		x := y.answers[at]
		if y.Intn(100) >= 10 {
			y.answers = slices.Delete(y.answers, at, at+1)
		}
		if y.Intn(100) >= loss {
			y.hears(x)
		}
	}
}

// crash lets the power go at a member, soon or now; it is opened again, whatever is kept.
func (y *many) crash(who int) {
	y.t.Helper()
	if y.s[who].Dead() == nil && y.Intn(2) == 0 {
		y.d[who].Arm(y.Intn(14))
		return
	}
	y.say("Crash %d", who)
	y.count["crashed"]++
	y.d[who].Start([]int{y.Intn(3), y.Intn(400)})
	y.opens(who)
}

// change asks a leader for one member more or less, of whom two stay at least.
func (y *many) change(who int) {
	y.t.Helper()
	l, other := y.s[who].Conf(), 1+y.Intn(len(y.s)-1)
	if !conf.Has(l, other) {
		l, _ = conf.Add(l, other)
	} else if len(l) > 2 {
		l, _ = conf.Remove(l, other)
	}
	if y.s[who].Dead() != nil {
		return
	}
	var err error
	y.step(who, nil, func(s *server.Server) (server.Out, error) {
		var o server.Out
		if o, err = s.Change(l); err != nil && s.Dead() == nil {
			return server.Out{}, nil
		}
		return o, err
	})
	if err == nil {
		y.count["changed"]++
	}
}

// turn does one thing of those that can happen.
func (y *many) turn(loss int, changes bool) {
	y.t.Helper()
	who := 1 + y.Intn(len(y.s)-1)
	switch n := y.Intn(200); {
	case n < 40:
		y.tick(who)
	case n < 130:
		y.delivers(loss)
	case n < 170:
		y.post(loss)
	case n < 190:
		y.wants(y.Intn(len(y.clients)))
	case n < 192:
		y.asks(letter{to: who, r: y.odd()})
	case n < 195:
		y.hands(y.made(who))
	case n < 197:
		y.crash(who)
	case n < 199 && changes:
		y.change(who)
	}
}

func (y *many) tick(who int) {
	y.t.Helper()
	y.say("Tick %d", who)
	draw := y.Int()
	y.step(who, nil, func(s *server.Server) (server.Out, error) { return s.Tick(draw) })
}

// leader is who leads in the latest term; 0, if nobody does.
func (y *many) leader() int {
	last, term := 0, 0
	for who := 1; who < len(y.s); who++ {
		if s := y.s[who]; s.View().Role == raft.Leader && s.Term() > term {
			last, term = who, s.Term()
		}
	}
	return last
}

// counts tells whether a member is one by what is committed, or by one of those: who left is not heard any more.
func (y *many) counts(who int) bool {
	now := y.c.First
	for _, e := range y.done {
		if e.Kind == entry.Member {
			now, _ = conf.Decode(e.Data)
		}
	}
	return conf.Has(now, who) || slices.ContainsFunc(now, func(other int) bool { return conf.Has(y.s[other].Conf(), who) })
}

// calm tells whether somebody leads, all its members have done the same, and all clients are answered.
func (y *many) calm() bool {
	who := y.leader()
	if who == 0 || slices.ContainsFunc(y.clients, func(c client.Client) bool { return c.Busy }) {
		return false
	}
	for _, other := range y.s[who].Conf() {
		if y.s[other].Applied() != len(y.done)-1 || y.s[other].View().Leader != who {
			return false
		}
	}
	_, err := y.s[who].Entry(len(y.done))
	return err == api.ErrNone
}

// settles lets all be heard and time go on, till all is calm.
func (y *many) settles() {
	y.t.Helper()
	for who := 1; who < len(y.s); who++ {
		if y.s[who].Dead() != nil || y.Intn(4) == 0 {
			y.d[who].Start(nil)
			y.opens(who)
		}
		y.d[who].Arm(1 << 40)
	}
	for n := 0; !y.calm(); n++ {
		if n > 1000 {
			y.fail("it is not calm behind %d ticks", n)
		}
		for who := 1; who < len(y.s); who++ {
			y.tick(who)
		}
		for id, c := range y.clients {
			if c.Busy && n%5 == 0 {
				y.wants(id)
			}
		}
		for i := 0; i < 500 && len(y.way)+len(y.requests)+len(y.answers) > 0; i++ {
			y.passes()
		}
	}
	y.count["calm"]++
}

// passes delivers the oldest of each kind.
func (y *many) passes() {
	y.t.Helper()
	if len(y.way) > 0 {
		f := y.way[0]
		y.way = y.way[1:]
		if m, err := msg.Open(f.b); err == nil && y.counts(m.From) {
			y.hands(f)
		}
	}
	if len(y.requests) > 0 {
		x := y.requests[0]
		y.requests = y.requests[1:]
		y.asks(x)
	}
	if len(y.answers) > 0 {
		x := y.answers[0]
		y.answers = y.answers[1:]
		y.hears(x)
	}
}

// run lets much happen, then lets it settle, some times; at last each client asks once more.
func (y *many) run(turns int, changes bool) {
	y.t.Helper()
	for range 3 {
		loss := []int{0, 10, 30}[y.Intn(3)]
		for range turns {
			y.turn(loss, changes)
		}
		y.settles()
		for id := range y.clients {
			y.wants(id)
		}
		if y.settles(); slices.ContainsFunc(y.clients, func(c client.Client) bool { return c.Busy }) {
			y.fail("somebody waits")
		}
	}
}

// TestSV6Many: drawn runs of three and of five members, of whom some join and leave.
func TestSV6Many(t *testing.T) {
	count := map[string]int{}
	for seed := range 60 {
		n := []int{3, 5, 5}[seed%3]
		first := []int{3, 5, 3}[seed%3]
		newMany(t, seed, n, first, count).run(700, seed%3 == 2)
	}
	for what, n := range map[string]int{
		"done": 2000, "crashed": 300, "changed": 30, "calm": 360, "read": 200, "did": 1000, "opened": 100, "heard": 1000,
		"answered 0": 1000, "answered 1": 5, "answered 2": 20, "answered 30": 1000, "answered 31": 10, "answered 32": 20,
		"kind 1": 500, "kind 2": 500, "kind 3": 2000, "kind 4": 2000, "kind 5": 100, "kind 6": 100,
	} {
		if count[what] < n {
			t.Errorf("%s: %d times alone", what, count[what])
		}
	}
	t.Log(count)
}

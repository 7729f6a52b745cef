package server_test

import (
	"fmt"
	"slices"
	"strings"
	"testing"

	"tollbar/api"
	"tollbar/client"
	"tollbar/conf"
	"tollbar/disk"
	"tollbar/entry"
	"tollbar/msg"
	"tollbar/order"
	"tollbar/pack"
	"tollbar/quota"
	"tollbar/raft"
	"tollbar/server"
	"tollbar/session"
	"tollbar/stable"
)

// add is something that changes something, query something that reads.
func add(name string) order.Order {
	return order.Order{Kind: order.AddNode, Node: quota.Node{Name: name, Own: 5 + 5i}}
}

func query(name string) order.Order {
	return order.Order{Kind: order.Query, Node: quota.Node{Name: name}}
}

// asks is a request that goes through the log, reads one that does not.
func asks(who, number int, c session.Command) client.Request {
	return client.Request{Client: who, Number: number, Command: c}
}

func reads(who, number int, o order.Order) client.Request {
	return client.Request{Client: who, Number: number, Reads: true, Command: session.Command{Kind: session.Ask, Order: o}}
}

// opening is a command that opens a session, asking one that asks for something.
func opening() session.Command { return session.Command{Kind: session.Open} }

func asking(number, seq int, o order.Order) session.Command {
	return session.Command{Kind: session.Ask, Session: number, Seq: seq, Order: o}
}

// noCommand is one of whose bytes no command is made: its name is too long.
func noCommand() session.Command { return asking(1, 1, add(strings.Repeat("n", 33))) }

// tooLong is one whose bytes no entry has room for.
func tooLong() session.Command { return asking(1, 1, add(strings.Repeat("n", 4096))) }

// answer is what a request is answered, fault an error.
func answer(who, number, leader int, r session.Reply) client.Answer {
	return client.Answer{Client: who, Number: number, Leader: leader, Reply: r}
}

func fault(who, number, leader int, err api.Errno) client.Answer {
	return client.Answer{Client: who, Number: number, Leader: leader, Err: int(err)}
}

// short is a text of which the midst is left out where it is long.
func short(s string) string {
	if len(s) <= 1500 {
		return s
	}
	return fmt.Sprintf("%s..(%d)..%s", s[:700], len(s), s[len(s)-700:])
}

// shownEntry is an entry as a text, shownMsg a message, shownAnswer an answer.
func shownEntry(e entry.Entry) string {
	return fmt.Sprintf(" %d/%d:%d:%q", e.Index, e.Term, e.Kind, e.Data)
}

func shownMsg(m msg.Msg) string {
	kinds := []string{"?", "Vote", "Voted", "Append", "Added", "Piece", "Pieced"}
	s := fmt.Sprintf("%s %d>%d term %d at %d/%d commit %d round %d %v off %d data %q", kinds[max(0, min(m.Kind, 6))], m.From, m.To, m.Term, m.Index, m.LogTerm, m.Commit, m.Round, m.OK, m.Off, m.Data)
	for _, e := range m.Entries {
		s += shownEntry(e)
	}
	return s
}

func shownAnswer(a client.Answer) string {
	r := a.Reply
	return fmt.Sprintf("client %d number %d err %d leader %d reply %d %d answer %d %v %v", a.Client, a.Number, a.Err, a.Leader, r.Err, r.Session, r.Answer.Err, r.Answer.Used, r.Answer.Total)
}

// shownOut is what comes of a step, as lines.
func shownOut(o server.Out) string {
	var b strings.Builder
	for i, to := range o.To {
		m, err := msg.Open(o.Frames[i])
		fmt.Fprintf(&b, "\n  to %d: %s %v", to, shownMsg(m), err)
	}
	for _, a := range o.Answers {
		b.WriteString("\n  " + shownAnswer(a))
	}
	if len(o.To) != len(o.Frames) {
		fmt.Fprintf(&b, "\n  %d frames", len(o.Frames))
	}
	return b.String()
}

// shownStored is what is kept, as a text.
func shownStored(s raft.Stored) string {
	t := fmt.Sprintf("term %d vote %d conf %v snap %q log %d/%d", s.Term, s.Vote, s.Conf, s.Snap, s.Log.Base, s.Log.Term)
	for _, e := range s.Log.L {
		t += shownEntry(e)
	}
	return t
}

// shown is all that can be seen of a member.
func shown(s *server.Server) string {
	var b strings.Builder
	v := s.View()
	fmt.Fprintf(&b, "role %d leader %d commit %d round %d term %d conf %v applied %d waits %d dead %v", v.Role, v.Leader, v.Commit, v.Round, s.Term(), s.Conf(), s.Applied(), s.Waits(), s.Dead())
	fmt.Fprintf(&b, " table %q read %v log", s.Table(), s.Read(session.Command{Order: query("r")}))
	for index := max(1, s.Applied()-80); ; index++ {
		e, err := s.Entry(index)
		if err == api.ErrNone {
			return b.String()
		}
		if err == nil {
			b.WriteString(shownEntry(e))
		}
	}
}

// disks is a new disk.
func disks(t *testing.T, size int) *disk.Disk {
	t.Helper()
	d, err := disk.New(size)
	if err != nil {
		t.Fatalf("disk of %d: %v", size, err)
	}
	return d
}

// laid is a disk on which something is kept.
func laid(t *testing.T, s raft.Stored) *disk.Disk {
	t.Helper()
	return laidOn(t, disks(t, 1<<16), s)
}

// laidOn is that on an empty disk.
func laidOn(t *testing.T, d *disk.Disk, s raft.Stored) *disk.Disk {
	t.Helper()
	k, err := stable.Open(d, conf.Conf{9})
	if err == nil {
		err = k.Save(s)
	}
	if err != nil {
		t.Fatalf("nothing can be kept: %v", err)
	}
	return d
}

// saved is what a disk keeps; nothing, if it is empty.
func saved(t *testing.T, d *disk.Disk) raft.Stored {
	t.Helper()
	d = d.Clone()
	d.Start(nil)
	k, err := stable.Open(d, conf.Conf{64})
	if err != nil {
		t.Fatalf("what is kept: %v", err)
	}
	return k.Load()
}

// bytesOf are all bytes of a disk.
func bytesOf(t *testing.T, d *disk.Disk) string {
	t.Helper()
	d = d.Clone()
	d.Start(nil)
	b, err := d.Read(0, d.Size())
	if err != nil {
		t.Fatalf("Read: %v", err)
	}
	return string(b)
}

// of is how members are laid.
func of(id, n int) server.Config {
	first := make(conf.Conf, n)
	for i := range first {
		first[i] = i + 1
	}
	return server.Config{ID: id, Span: 4, First: first, Most: 50, Wait: 8}
}

// with is that with other bounds.
func with(c server.Config, most, wait int) server.Config {
	c.Most, c.Wait = most, wait
	return c
}

// opens is a member on a disk.
func opens(t *testing.T, d *disk.Disk, c server.Config) *server.Server {
	t.Helper()
	s, err := server.Open(d, c, 0)
	if err != nil {
		t.Fatalf("Open: %v", err)
	}
	return s
}

// does looks at that a step answered no error.
func does(t *testing.T, o server.Out, err error) server.Out {
	t.Helper()
	if err != nil {
		t.Fatalf("a step answers %v", err)
	}
	return o
}

// ticks lets some time go.
func ticks(t *testing.T, s *server.Server, n int) server.Out {
	t.Helper()
	var o server.Out
	for range n {
		x, err := s.Tick(0)
		o = does(t, x, err)
	}
	return o
}

// hears is what comes of a message.
func hears(t *testing.T, s *server.Server, m msg.Msg) server.Out {
	t.Helper()
	o, err := s.Hear(msg.Seal(m), 0)
	return does(t, o, err)
}

// asked is what comes of a request.
func asked(t *testing.T, s *server.Server, r client.Request) server.Out {
	t.Helper()
	o, err := s.Ask(r)
	return does(t, o, err)
}

// leads is the member 1 of some, on an empty disk, which leads in the term 1; 2 and on have not answered it since.
func leads(t *testing.T, c server.Config) (*server.Server, *disk.Disk) {
	t.Helper()
	d := disks(t, 1<<16)
	s := opens(t, d, c)
	stands(t, s)
	return s, d
}

// stands lets a member stand, and all others vote for it.
func stands(t *testing.T, s *server.Server) {
	t.Helper()
	ticks(t, s, 4)
	for _, who := range s.Conf() {
		if who != 1 {
			hears(t, s, msg.Msg{Kind: msg.Voted, From: who, To: 1, Term: s.Term(), OK: true})
		}
	}
	if s.View().Role != raft.Leader {
		t.Fatalf("it does not lead: %s", shown(s))
	}
}

// added is that a member has all up to an index, and has heard of a round.
func added(who, term, index, round int) msg.Msg {
	return msg.Msg{Kind: msg.Added, From: who, To: 1, Term: term, OK: true, Index: index, Round: round}
}

// settles lets 2 of 1's members have all that it has.
func settles(t *testing.T, s *server.Server) server.Out {
	t.Helper()
	last := s.Applied()
	for {
		if _, err := s.Entry(last + 1); err != nil {
			return hears(t, s, added(2, s.Term(), last, 0))
		}
		last++
	}
}

// tells looks at what comes of a step: the answers alone.
func tells(t *testing.T, what string, o server.Out, want ...client.Answer) {
	t.Helper()
	if g, w := shownOut(server.Out{Answers: o.Answers}), shownOut(server.Out{Answers: want}); g != w {
		t.Errorf("%s is answered%s\nnot%s", what, short(g), short(w))
	}
}

// sends looks at what comes of a step: the frames alone.
func sends(t *testing.T, what string, o server.Out, want ...msg.Msg) {
	t.Helper()
	w := server.Out{}
	for _, m := range want {
		w.To, w.Frames = append(w.To, m.To), append(w.Frames, msg.Seal(m))
	}
	if g, w := shownOut(server.Out{To: o.To, Frames: o.Frames}), shownOut(w); g != w {
		t.Errorf("%s sends%s\nnot%s", what, short(g), short(w))
	}
}

// refused looks at a step that answers an error: all else is zero.
func refused(t *testing.T, what string, o server.Out, err error, want api.Errno) {
	t.Helper()
	if err == nil || err != want || o.To != nil || o.Frames != nil || o.Answers != nil {
		t.Errorf("%s: %s, %v, not %v", what, shownOut(o), err, want)
	}
}

// still looks at that something changes nothing of a member, and that nothing of its disk is touched, the power's going neither.
func still(t *testing.T, what string, s *server.Server, d *disk.Disk, do func()) {
	t.Helper()
	before, bytes, wait := shown(s), bytesOf(t, d), d.Waits()
	do()
	if after := shown(s); after != before {
		t.Errorf("%s: from %s\nto %s", what, short(before), short(after))
	}
	if bytesOf(t, d) != bytes || d.Waits() != wait {
		t.Errorf("%s: the disk was written", what)
	}
}

// TestSV1Example: the chapter's example, and what comes behind it.
func TestSV1Example(t *testing.T) {
	d := disks(t, 4000)
	s := opens(t, d, server.Config{ID: 1, Span: 2, First: conf.Conf{1}, Most: 6, Wait: 8})
	tells(t, "one tick", ticks(t, s, 1))
	if v := s.View(); v != (raft.View{}) {
		t.Errorf("behind one tick: %v", v)
	}
	tells(t, "two ticks", ticks(t, s, 1))
	if v := s.View(); v != (raft.View{Role: raft.Leader, Leader: 1, Commit: 1}) || s.Applied() != 1 || s.Term() != 1 {
		t.Errorf("behind two ticks: %s", shown(s))
	}
	tells(t, "Open", asked(t, s, asks(4, 9, opening())), answer(4, 9, 1, session.Reply{Session: 2}))
	tells(t, "AddNode", asked(t, s, asks(4, 10, asking(2, 1, add("r")))), answer(4, 10, 1, session.Reply{Session: 2, Answer: order.Answer{Total: 5 + 5i}}))
	tells(t, "AddNode, again", asked(t, s, asks(4, 10, asking(2, 1, add("r")))), answer(4, 10, 1, session.Reply{Session: 2, Answer: order.Answer{Total: 5 + 5i}}))
	tells(t, "AddNode, as the next one", asked(t, s, asks(4, 11, asking(2, 2, add("r")))), answer(4, 11, 1, session.Reply{Session: 2, Answer: order.Answer{Err: 9}}))
	tells(t, "a gap", asked(t, s, asks(4, 12, asking(2, 4, add("r")))), answer(4, 12, 1, session.Reply{Err: 23}))
	tells(t, "Query", asked(t, s, reads(7, 1, query("r"))), answer(7, 1, 1, session.Reply{Answer: order.Answer{Total: 5 + 5i}}))
	tells(t, "Query of none", asked(t, s, reads(7, 2, query("a"))), answer(7, 2, 1, session.Reply{Answer: order.Answer{Err: 8}}))
	if s.Waits() != 0 || s.Dead() != nil || s.Applied() != 6 {
		t.Errorf("at last: %s", shown(s))
	}
}

// table is what comes of commands at their indexes.
func table(t *testing.T, l ...any) *session.Table {
	t.Helper()
	x := session.New()
	for i := 0; i < len(l); i += 2 {
		x.Apply(l[i].(int), l[i+1].(session.Command))
	}
	return x
}

// TestSV5: all that can be seen of a member: as it was opened, as it stands, leads, has something done and something that waits.
func TestSV5(t *testing.T) {
	d := disks(t, 1<<16)
	s := opens(t, d, of(1, 3))
	sees := func(what string, v raft.View, term, applied, waits int, x *session.Table, log ...entry.Entry) {
		t.Helper()
		if s.View() != v || s.Term() != term || s.Applied() != applied || s.Waits() != waits || s.Dead() != nil || !slices.Equal(s.Conf(), conf.Conf{1, 2, 3}) {
			t.Errorf("%s: %s", what, shown(s))
		}
		if string(s.Table()) != string(x.Encode()) {
			t.Errorf("%s: the table %q, not %q", what, s.Table(), x.Encode())
		}
		for i, e := range log {
			if got, err := s.Entry(i + 1); err != nil || shownEntry(got) != shownEntry(e) {
				t.Errorf("%s: Entry(%d): %s, %v, not %s", what, i+1, shownEntry(got), err, shownEntry(e))
			}
		}
		for _, index := range []int{-1, 0, len(log) + 1, api.MaxIndex, api.MaxIndex + 1} {
			if e, err := s.Entry(index); err != api.ErrNone || shownEntry(e) != shownEntry(entry.Entry{}) {
				t.Errorf("%s: Entry(%d): %s, %v", what, index, shownEntry(e), err)
			}
		}
		for _, o := range []order.Order{query("r"), query("a"), add("r"), add("a"), {}, {Kind: 7}} {
			if got := s.Read(session.Command{Kind: 9, Session: 5, Seq: 7, Order: o}); got != (session.Reply{Answer: x.Read(o)}) {
				t.Errorf("%s: Read of %v: %v", what, o, got)
			}
		}
	}
	sees("opened", raft.View{}, 0, 0, 0, table(t))
	ticks(t, s, 4)
	sees("stands", raft.View{Role: raft.Candidate}, 1, 0, 0, table(t))
	hears(t, s, msg.Msg{Kind: msg.Voted, From: 3, To: 1, Term: 1, OK: true})
	log := []entry.Entry{{Index: 1, Term: 1}}
	sees("leads", raft.View{Role: raft.Leader, Leader: 1}, 1, 0, 0, table(t), log...)
	hears(t, s, added(3, 1, 1, 0))
	sees("has committed", raft.View{Role: raft.Leader, Leader: 1, Commit: 1}, 1, 1, 0, table(t), log...)
	asked(t, s, asks(4, 1, opening()))
	asked(t, s, asks(4, 2, asking(2, 1, add("r"))))
	log = append(log, entry.Entry{Index: 2, Term: 1, Kind: entry.Order, Data: session.EncodeCommand(opening())})
	log = append(log, entry.Entry{Index: 3, Term: 1, Kind: entry.Order, Data: session.EncodeCommand(asking(2, 1, add("r")))})
	sees("has two that wait", raft.View{Role: raft.Leader, Leader: 1, Commit: 1}, 1, 1, 2, table(t), log...)
	asked(t, s, reads(4, 3, query("r")))
	sees("has three that wait", raft.View{Role: raft.Leader, Leader: 1, Commit: 1, Round: 1}, 1, 1, 3, table(t), log...)
	hears(t, s, added(2, 1, 2, 0))
	sees("has one done", raft.View{Role: raft.Leader, Leader: 1, Commit: 2, Round: 1}, 1, 2, 2, table(t, 2, opening()), log...)
	hears(t, s, added(2, 1, 3, 0))
	whole := table(t, 2, opening(), 3, asking(2, 1, add("r")))
	sees("has both done", raft.View{Role: raft.Leader, Leader: 1, Commit: 3, Round: 1}, 1, 3, 1, whole, log...)
	hears(t, s, added(2, 1, 3, 1))
	sees("has all answered", raft.View{Role: raft.Leader, Leader: 1, Commit: 3, Round: 1}, 1, 3, 0, whole, log...)
	hears(t, s, msg.Msg{Kind: msg.Vote, From: 3, To: 1, Term: 7})
	sees("follows", raft.View{Commit: 3, Round: 1}, 7, 3, 0, whole, log...)
}

// TestSV5Nil: a nil Server.
func TestSV5Nil(t *testing.T) {
	var s *server.Server
	for what, do := range map[string]func() (server.Out, error){
		"Tick": func() (server.Out, error) { return s.Tick(1) },
		"Hear": func() (server.Out, error) { return s.Hear(nil, 1) },
		"Hear of a frame": func() (server.Out, error) {
			return s.Hear(msg.Seal(msg.Msg{Kind: msg.Vote, From: 2, To: 1, Term: 1}), 1)
		},
		"Ask":    func() (server.Out, error) { return s.Ask(asks(1, 1, opening())) },
		"a read": func() (server.Out, error) { return s.Ask(reads(1, 1, query("r"))) },
		"Change": func() (server.Out, error) { return s.Change(conf.Conf{1}) },
	} {
		o, err := do()
		refused(t, what, o, err, api.ErrArg)
	}
	if v := s.View(); v != (raft.View{}) || s.Term() != 0 || s.Conf() != nil || s.Applied() != 0 || s.Table() != nil || s.Waits() != 0 {
		t.Errorf("something is told: %v", v)
	}
	for _, index := range []int{-1, 0, 1} {
		if e, err := s.Entry(index); err != api.ErrArg || shownEntry(e) != shownEntry(entry.Entry{}) {
			t.Errorf("Entry: %v, %v", e, err)
		}
	}
	for _, c := range []session.Command{{}, opening(), {Order: query("r")}, {Order: add("r")}} {
		if r := s.Read(c); r != (session.Reply{Err: 1}) {
			t.Errorf("Read: %v", r)
		}
	}
	if err := s.Dead(); err != api.ErrArg {
		t.Errorf("Dead: %v", err)
	}
}

// order5 is what a node of 5/5 that nobody uses is answered with.
func order5() order.Answer { return order.Answer{Total: 5 + 5i} }

// order8 is what a Query of a node that is none is answered with.
func order8() order.Answer { return order.Answer{Err: 8} }

// handed is a handed text.
func handed(c conf.Conf, snap []byte) []byte {
	return pack.New().Bytes(conf.Encode(c)).Bytes(snap).Done()
}

// Package rules has tests of what holds in all layers.
package rules

import (
	"errors"
	"strconv"
	"testing"

	"tollbar/api"
	"tollbar/chunk"
	"tollbar/client"
	"tollbar/conf"
	"tollbar/disk"
	"tollbar/entry"
	"tollbar/msg"
	"tollbar/order"
	"tollbar/pack"
	"tollbar/pair"
	"tollbar/quota"
	"tollbar/raft"
	"tollbar/read"
	"tollbar/seal"
	"tollbar/server"
	"tollbar/session"
	"tollbar/stable"
	"tollbar/tape"
)

// TestLimits: the limits that the document names.
func TestLimits(t *testing.T) {
	limits := []struct {
		name      string
		got, want int
	}{
		{"MaxBytes", api.MaxBytes, 1048576},
		{"MaxList", api.MaxList, 4096},
		{"MaxLabel", api.MaxLabel, 32},
		{"MaxAmount", api.MaxAmount, 1099511627776},
		{"MaxIndex", api.MaxIndex, 1099511627776},
		{"MaxNodes", api.MaxNodes, 256},
		{"MaxUses", api.MaxUses, 1024},
		{"MaxClients", api.MaxClients, 64},
		{"MaxMembers", api.MaxMembers, 7},
	}
	for _, l := range limits {
		if l.got != l.want {
			t.Errorf("%s: %d, not %d", l.name, l.got, l.want)
		}
	}
}

// TestErrors: the numbers that the document names, and how an error is told.
func TestErrors(t *testing.T) {
	numbers := map[api.Errno]int{
		api.ErrArg: 1, api.ErrLong: 2, api.ErrForm: 3, api.ErrRange: 4, api.ErrOver: 5, api.ErrName: 6,
		api.ErrNone: 8, api.ErrTwice: 9, api.ErrFull: 10, api.ErrSum: 11, api.ErrEnd: 12, api.ErrDown: 13,
		api.ErrHalt: 14, api.ErrQuota: 20, api.ErrUsed: 21, api.ErrOld: 22, api.ErrGap: 23, api.ErrGone: 24,
		api.ErrLead: 30, api.ErrWait: 31, api.ErrBusy: 32, api.ErrParty: 33, api.ErrScript: 291,
	}
	for e, n := range numbers {
		if int(e) != n || e.Error() != "error "+strconv.Itoa(n) {
			t.Errorf("%d: %q, not %d", int(e), e.Error(), n)
		}
	}
}

// TestErrorsAs: errors.As finds the number in what a call answers, and a call without a fault answers nil.
func TestErrorsAs(t *testing.T) {
	var n api.Errno
	r := pack.Read([]byte("y"))
	if err := r.Done(); !errors.As(err, &n) || n != api.ErrForm {
		t.Errorf("Done: %v", err)
	}
	r.Bool()
	if err := r.Done(); err != nil {
		t.Errorf("Done: %v", err)
	}
	r.Text(-1)
	if err := r.Done(); !errors.As(err, &n) || n != api.ErrArg {
		t.Errorf("Done: %v", err)
	}
	if err := (*pack.Reader)(nil).Done(); !errors.As(err, &n) || n != api.ErrArg {
		t.Errorf("Done of a nil reader: %v", err)
	}
}

// TestErrorsAsSeal: the same of what is sealed.
func TestErrorsAsSeal(t *testing.T) {
	var n api.Errno
	if _, err := seal.Seal(0, nil); !errors.As(err, &n) || n != api.ErrArg {
		t.Errorf("Seal: %v", err)
	}
	if _, _, err := seal.Open(nil); !errors.As(err, &n) || n != api.ErrEnd {
		t.Errorf("Open of nothing: %v", err)
	}
	if _, _, err := seal.Open(make([]byte, 5)); !errors.As(err, &n) || n != api.ErrSum {
		t.Errorf("Open of noughts: %v", err)
	}
	b, err := seal.Seal(1, []byte("ab"))
	if err != nil {
		t.Errorf("Seal: %v", err)
	}
	if _, _, err := seal.Open(b); err != nil {
		t.Errorf("Open: %v", err)
	}
}

// TestErrorsAsDisk: the same of a disk.
func TestErrorsAsDisk(t *testing.T) {
	var n api.Errno
	if _, err := disk.New(0); !errors.As(err, &n) || n != api.ErrArg {
		t.Errorf("New: %v", err)
	}
	d, err := disk.New(2)
	if err != nil {
		t.Fatalf("New: %v", err)
	}
	if err := d.Write(1, []byte("ab")); !errors.As(err, &n) || n != api.ErrArg {
		t.Errorf("Write: %v", err)
	}
	if err := d.Write(0, []byte("ab")); err != nil {
		t.Errorf("Write: %v", err)
	}
	if err := d.Arm(0); err != nil {
		t.Errorf("Arm: %v", err)
	}
	if err := d.Sync(); !errors.As(err, &n) || n != api.ErrDown {
		t.Errorf("Sync, the power going: %v", err)
	}
	if _, err := d.Read(0, 2); !errors.As(err, &n) || n != api.ErrDown {
		t.Errorf("Read, the power gone: %v", err)
	}
	d.Start(nil)
	if err := d.Sync(); err != nil {
		t.Errorf("Sync: %v", err)
	}
	if _, err := d.Read(0, 2); err != nil {
		t.Errorf("Read: %v", err)
	}
}

// TestErrorsAsTape: the same of a tape.
func TestErrorsAsTape(t *testing.T) {
	var n api.Errno
	if _, _, err := tape.Open(nil, tape.Area{Len: 10}); !errors.As(err, &n) || n != api.ErrArg {
		t.Errorf("Open of no disk: %v", err)
	}
	d, err := disk.New(10)
	if err != nil {
		t.Fatalf("New: %v", err)
	}
	x, _, err := tape.Open(d, tape.Area{Len: 10})
	if err != nil {
		t.Fatalf("Open: %v", err)
	}
	if err := x.Append(make([]byte, api.MaxBytes+1)); !errors.As(err, &n) || n != api.ErrLong {
		t.Errorf("Append of too much: %v", err)
	}
	if err := x.Append(make([]byte, 6)); !errors.As(err, &n) || n != api.ErrFull {
		t.Errorf("Append of more than the room: %v", err)
	}
	if err := x.Append([]byte("ab")); err != nil {
		t.Errorf("Append: %v", err)
	}
	if err := x.Reset(); err != nil {
		t.Errorf("Reset: %v", err)
	}
	if err := d.Write(0, []byte{2}); err != nil {
		t.Errorf("Write: %v", err)
	}
	if _, _, err := tape.Open(d, tape.Area{Len: 10}); !errors.As(err, &n) || n != api.ErrHalt {
		t.Errorf("Open, the mark being 2: %v", err)
	}
	if err := d.Arm(0); err != nil {
		t.Errorf("Arm: %v", err)
	}
	if err := x.Reset(); !errors.As(err, &n) || n != api.ErrDown {
		t.Errorf("Reset, the power going: %v", err)
	}
	if err := x.Append(nil); !errors.As(err, &n) || n != api.ErrDown {
		t.Errorf("Append to a dead tape: %v", err)
	}
}

// TestErrorsAsPair: the same of amounts.
func TestErrorsAsPair(t *testing.T) {
	var n api.Errno
	if _, err := pair.Of(-1, 0); !errors.As(err, &n) || n != api.ErrArg {
		t.Errorf("Of: %v", err)
	}
	if _, _, err := pair.Parts(0.5); !errors.As(err, &n) || n != api.ErrArg {
		t.Errorf("Parts: %v", err)
	}
	if _, err := pair.Add(api.MaxAmount, 1); !errors.As(err, &n) || n != api.ErrOver {
		t.Errorf("Add: %v", err)
	}
	if _, err := pair.Sub(1, 2); !errors.As(err, &n) || n != api.ErrRange {
		t.Errorf("Sub: %v", err)
	}
	if _, err := pair.Sum([]complex128{1i, api.MaxAmount * 1i}); !errors.As(err, &n) || n != api.ErrOver {
		t.Errorf("Sum: %v", err)
	}
	if _, err := pair.Most(1, -1); !errors.As(err, &n) || n != api.ErrArg {
		t.Errorf("Most: %v", err)
	}
	if _, err := pair.Least(-1, 1); !errors.As(err, &n) || n != api.ErrArg {
		t.Errorf("Least: %v", err)
	}
	if _, err := pair.Decode([]byte("n1;")); !errors.As(err, &n) || n != api.ErrForm {
		t.Errorf("Decode: %v", err)
	}
	if _, err := pair.Read("1/"); !errors.As(err, &n) || n != api.ErrForm {
		t.Errorf("Read: %v", err)
	}
	if _, err := pair.Read("1/2"); err != nil {
		t.Errorf("Read: %v", err)
	}
}

// TestErrorsAsQuota: the same of a tree.
func TestErrorsAsQuota(t *testing.T) {
	var n api.Errno
	q := quota.New()
	r := quota.Node{Name: "r", Own: 2}
	if err := q.AddNode(r); err != nil {
		t.Errorf("AddNode: %v", err)
	}
	if err := q.AddNode(r); !errors.As(err, &n) || n != api.ErrTwice {
		t.Errorf("AddNode again: %v", err)
	}
	if err := q.AddNode(quota.Node{}); !errors.As(err, &n) || n != api.ErrName {
		t.Errorf("AddNode of no name: %v", err)
	}
	if err := q.Admit(quota.Use{ID: "x", Node: "r", Amount: 3}); !errors.As(err, &n) || n != api.ErrQuota {
		t.Errorf("Admit of too much: %v", err)
	}
	if err := q.Admit(quota.Use{ID: "x", Node: "r", Amount: 2}); err != nil {
		t.Errorf("Admit: %v", err)
	}
	if err := q.Set(quota.Node{Name: "r", Own: 1}); !errors.As(err, &n) || n != api.ErrUsed {
		t.Errorf("Set: %v", err)
	}
	if err := q.RemoveNode("r"); !errors.As(err, &n) || n != api.ErrUsed {
		t.Errorf("RemoveNode: %v", err)
	}
	if err := q.Release("y"); !errors.As(err, &n) || n != api.ErrNone {
		t.Errorf("Release of nothing: %v", err)
	}
	if err := q.Release("x"); err != nil {
		t.Errorf("Release: %v", err)
	}
	if _, err := q.Room("s"); !errors.As(err, &n) || n != api.ErrNone {
		t.Errorf("Room: %v", err)
	}
	if _, err := (*quota.Tree)(nil).Used("r"); !errors.As(err, &n) || n != api.ErrArg {
		t.Errorf("Used of no tree: %v", err)
	}
	if _, err := quota.Decode(nil); !errors.As(err, &n) || n != api.ErrForm {
		t.Errorf("Decode of nothing: %v", err)
	}
	if _, err := quota.Decode(q.Encode()); err != nil {
		t.Errorf("Decode: %v", err)
	}
}

// TestErrorsAsOrder: the same of what is asked for; an answer has the number itself.
func TestErrorsAsOrder(t *testing.T) {
	var n api.Errno
	if _, err := order.Decode([]byte("i1;")); !errors.As(err, &n) || n != api.ErrForm {
		t.Errorf("Decode: %v", err)
	}
	if _, err := order.DecodeAnswer(nil); !errors.As(err, &n) || n != api.ErrForm {
		t.Errorf("DecodeAnswer: %v", err)
	}
	if _, err := order.Decode(order.Encode(order.Order{})); err != nil {
		t.Errorf("Decode: %v", err)
	}
	if _, err := order.DecodeAnswer(order.EncodeAnswer(order.Answer{})); err != nil {
		t.Errorf("DecodeAnswer: %v", err)
	}
	if a := order.Do(quota.New(), order.Order{Kind: order.Query}); api.Errno(a.Err) != api.ErrNone {
		t.Errorf("Do: %v", a)
	}
}

// TestErrorsAsSession: the same of a table; a reply has the number itself.
func TestErrorsAsSession(t *testing.T) {
	var n api.Errno
	s := session.New()
	if _, _, err := s.Last(1); !errors.As(err, &n) || n != api.ErrGone {
		t.Errorf("Last of no session: %v", err)
	}
	if _, _, err := (*session.Table)(nil).Last(1); !errors.As(err, &n) || n != api.ErrArg {
		t.Errorf("Last of no table: %v", err)
	}
	if r := s.Apply(1, session.Command{Kind: session.Close, Session: 1}); api.Errno(r.Err) != api.ErrGone {
		t.Errorf("Close: %v", r)
	}
	if r := s.Apply(1, session.Command{Kind: session.Open}); r.Err != 0 {
		t.Errorf("Open: %v", r)
	}
	if _, _, err := s.Last(1); err != nil {
		t.Errorf("Last: %v", err)
	}
	if _, err := session.Decode(nil); !errors.As(err, &n) || n != api.ErrForm {
		t.Errorf("Decode of nothing: %v", err)
	}
	if _, err := session.Decode(s.Encode()); err != nil {
		t.Errorf("Decode: %v", err)
	}
	if _, err := session.DecodeCommand(nil); !errors.As(err, &n) || n != api.ErrForm {
		t.Errorf("DecodeCommand of nothing: %v", err)
	}
	if _, err := session.DecodeCommand(session.EncodeCommand(session.Command{})); err != nil {
		t.Errorf("DecodeCommand: %v", err)
	}
	if _, err := session.DecodeReply(nil); !errors.As(err, &n) || n != api.ErrForm {
		t.Errorf("DecodeReply of nothing: %v", err)
	}
	if _, err := session.DecodeReply(session.EncodeReply(session.Reply{})); err != nil {
		t.Errorf("DecodeReply: %v", err)
	}
}

// TestErrorsAsEntry: the same of a log.
func TestErrorsAsEntry(t *testing.T) {
	var n api.Errno
	if err := entry.Check(entry.Log{Base: 1}); !errors.As(err, &n) || n != api.ErrArg {
		t.Errorf("Check: %v", err)
	}
	if err := entry.Check(entry.Log{}); err != nil {
		t.Errorf("Check: %v", err)
	}
	if _, err := entry.Term(entry.Log{}, 1); !errors.As(err, &n) || n != api.ErrNone {
		t.Errorf("Term: %v", err)
	}
	if _, err := entry.Term(entry.Log{Base: 2, Term: 1}, 1); !errors.As(err, &n) || n != api.ErrOld {
		t.Errorf("Term: %v", err)
	}
	if _, err := entry.At(entry.Log{Base: 2, Term: 1}, 2); !errors.As(err, &n) || n != api.ErrOld {
		t.Errorf("At: %v", err)
	}
	if _, err := entry.Add(entry.Log{}, 1, entry.Order, make([]byte, 4097)); !errors.As(err, &n) || n != api.ErrLong {
		t.Errorf("Add: %v", err)
	}
	if _, err := entry.Add(entry.Log{}, 1, entry.Order, nil); err != nil {
		t.Errorf("Add: %v", err)
	}
	if _, err := entry.Compact(entry.Log{}, 1); !errors.As(err, &n) || n != api.ErrNone {
		t.Errorf("Compact: %v", err)
	}
	if _, err := entry.Compact(entry.Log{}, 0); err != nil {
		t.Errorf("Compact: %v", err)
	}
	if _, err := entry.Decode(nil); !errors.As(err, &n) || n != api.ErrForm {
		t.Errorf("Decode of nothing: %v", err)
	}
	if _, err := entry.Decode(entry.Encode(entry.Entry{Index: 1, Term: 1})); err != nil {
		t.Errorf("Decode: %v", err)
	}
}

// TestErrorsAsConf: the same of members.
func TestErrorsAsConf(t *testing.T) {
	var n api.Errno
	if err := conf.Check(nil); !errors.As(err, &n) || n != api.ErrArg {
		t.Errorf("Check of none: %v", err)
	}
	if err := conf.Check(conf.Conf{1}); err != nil {
		t.Errorf("Check: %v", err)
	}
	if _, err := conf.Add(conf.Conf{1}, 65); !errors.As(err, &n) || n != api.ErrArg {
		t.Errorf("Add of 65: %v", err)
	}
	if _, err := conf.Add(conf.Conf{1}, 1); !errors.As(err, &n) || n != api.ErrTwice {
		t.Errorf("Add of one that is there: %v", err)
	}
	if _, err := conf.Add(conf.Conf{1, 2, 3, 4, 5, 6, 7}, 8); !errors.As(err, &n) || n != api.ErrFull {
		t.Errorf("Add of one too many: %v", err)
	}
	if _, err := conf.Add(conf.Conf{1}, 2); err != nil {
		t.Errorf("Add: %v", err)
	}
	if _, err := conf.Remove(conf.Conf{1}, 2); !errors.As(err, &n) || n != api.ErrNone {
		t.Errorf("Remove of one that is none: %v", err)
	}
	if _, err := conf.Remove(conf.Conf{1}, 1); !errors.As(err, &n) || n != api.ErrArg {
		t.Errorf("Remove of the only one: %v", err)
	}
	if _, err := conf.Remove(conf.Conf{1, 2}, 2); err != nil {
		t.Errorf("Remove: %v", err)
	}
	if _, err := conf.Decode(nil); !errors.As(err, &n) || n != api.ErrForm {
		t.Errorf("Decode of nothing: %v", err)
	}
	if _, err := conf.Decode(conf.Encode(conf.Conf{1, 2})); err != nil {
		t.Errorf("Decode: %v", err)
	}
}

// TestErrorsAsMsg: the same of a message.
func TestErrorsAsMsg(t *testing.T) {
	var n api.Errno
	m := msg.Msg{Kind: msg.Vote, From: 1, To: 2, Term: 3}
	if err := msg.Check(msg.Msg{}); !errors.As(err, &n) || n != api.ErrArg {
		t.Errorf("Check of nothing: %v", err)
	}
	if err := msg.Check(m); err != nil {
		t.Errorf("Check: %v", err)
	}
	if _, err := msg.Decode(nil); !errors.As(err, &n) || n != api.ErrForm {
		t.Errorf("Decode of nothing: %v", err)
	}
	if _, err := msg.Decode(msg.Encode(m)); err != nil {
		t.Errorf("Decode: %v", err)
	}
	if _, err := msg.Open(msg.Encode(m)); !errors.As(err, &n) || n != api.ErrForm {
		t.Errorf("Open of what is not sealed: %v", err)
	}
	if _, err := msg.Open(msg.Seal(m)); err != nil {
		t.Errorf("Open: %v", err)
	}
}

// TestErrorsAsChunk: the same of a text that is cut.
func TestErrorsAsChunk(t *testing.T) {
	var n api.Errno
	if _, _, err := chunk.Cut(nil, 0, 0); !errors.As(err, &n) || n != api.ErrArg {
		t.Errorf("Cut by 0: %v", err)
	}
	if _, _, err := chunk.Cut(nil, 1, 1); !errors.As(err, &n) || n != api.ErrRange {
		t.Errorf("Cut beyond the end: %v", err)
	}
	if _, _, err := chunk.Cut(nil, 0, 1); err != nil {
		t.Errorf("Cut: %v", err)
	}
	if _, err := chunk.Pieces(nil, api.MaxBytes+1); !errors.As(err, &n) || n != api.ErrArg {
		t.Errorf("Pieces by too many: %v", err)
	}
	if _, err := chunk.Pieces(nil, api.MaxBytes); err != nil {
		t.Errorf("Pieces: %v", err)
	}
}

// TestErrorsAsRaft: the same of a member that shares a log.
func TestErrorsAsRaft(t *testing.T) {
	var n api.Errno
	if _, err := raft.New(1, 4, raft.Stored{}, 0); !errors.As(err, &n) || n != api.ErrArg {
		t.Errorf("New without members: %v", err)
	}
	c, err := raft.New(1, 4, raft.Stored{Conf: conf.Conf{1}}, 0)
	if err != nil {
		t.Fatalf("New: %v", err)
	}
	if _, _, err := c.Propose(entry.Order, nil); !errors.As(err, &n) || n != api.ErrLead {
		t.Errorf("Propose to a follower: %v", err)
	}
	if _, _, _, err := c.Read(); !errors.As(err, &n) || n != api.ErrLead {
		t.Errorf("Read of a follower: %v", err)
	}
	for range 4 {
		c.Tick(0)
	}
	if _, _, err := c.Propose(entry.Order, make([]byte, 4097)); !errors.As(err, &n) || n != api.ErrLong {
		t.Errorf("Propose of too much: %v", err)
	}
	if _, _, err := c.Propose(entry.Order, nil); err != nil {
		t.Errorf("Propose: %v", err)
	}
	if _, _, _, err := c.Read(); err != nil {
		t.Errorf("Read: %v", err)
	}
	if err := c.Compact(3, nil); !errors.As(err, &n) || n != api.ErrRange {
		t.Errorf("Compact of what is not committed: %v", err)
	}
	if err := c.Compact(2, nil); err != nil {
		t.Errorf("Compact: %v", err)
	}
	if err := c.Compact(1, nil); !errors.As(err, &n) || n != api.ErrOld {
		t.Errorf("Compact of what was let go: %v", err)
	}
	c, _ = raft.New(1, 4, raft.Stored{Conf: conf.Conf{1, 2}}, 0)
	for range 4 {
		c.Tick(0)
	}
	c.Step(msg.Msg{Kind: msg.Voted, From: 2, To: 1, Term: 1, OK: true}, 0)
	if _, _, _, err := c.Read(); !errors.As(err, &n) || n != api.ErrWait {
		t.Errorf("Read while nothing is committed: %v", err)
	}
}

// TestErrorsAsRead: the same of reads that wait.
func TestErrorsAsRead(t *testing.T) {
	var n api.Errno
	q := read.Queue{Limit: 1}
	if err := read.Check(read.Queue{}); !errors.As(err, &n) || n != api.ErrArg {
		t.Errorf("Check of no limit: %v", err)
	}
	if err := read.Check(q); err != nil {
		t.Errorf("Check: %v", err)
	}
	if _, err := read.Add(q, read.Item{Term: -1}); !errors.As(err, &n) || n != api.ErrArg {
		t.Errorf("Add of a term below 0: %v", err)
	}
	q, err := read.Add(q, read.Item{Term: 1})
	if err != nil {
		t.Errorf("Add: %v", err)
	}
	if _, err := read.Add(q, read.Item{Term: 1}); !errors.As(err, &n) || n != api.ErrBusy {
		t.Errorf("Add of one too many: %v", err)
	}
}

// TestErrorsAsStable: the same of what a member keeps.
func TestErrorsAsStable(t *testing.T) {
	var n api.Errno
	if _, err := stable.Open(nil, conf.Conf{1}); !errors.As(err, &n) || n != api.ErrArg {
		t.Errorf("Open of no disk: %v", err)
	}
	d, err := disk.New(200)
	if err != nil {
		t.Fatalf("New: %v", err)
	}
	k, err := stable.Open(d, conf.Conf{1})
	if err != nil {
		t.Fatalf("Open: %v", err)
	}
	if err := k.Save(raft.Stored{}); !errors.As(err, &n) || n != api.ErrArg {
		t.Errorf("Save of nothing: %v", err)
	}
	if err := k.Save(raft.Stored{Conf: conf.Conf{1}, Snap: make([]byte, 200)}); !errors.As(err, &n) || n != api.ErrFull {
		t.Errorf("Save of more than there is room for: %v", err)
	}
	if err := k.Save(raft.Stored{Term: 1, Conf: conf.Conf{1}}); err != nil {
		t.Errorf("Save: %v", err)
	}
	if err := (*stable.Keeper)(nil).Save(k.Load()); !errors.As(err, &n) || n != api.ErrArg {
		t.Errorf("Save by no keeper: %v", err)
	}
	if _, _, err := stable.Decode(nil); !errors.As(err, &n) || n != api.ErrForm {
		t.Errorf("Decode of nothing: %v", err)
	}
	if _, _, err := stable.Decode(stable.Encode(1, k.Load())); err != nil {
		t.Errorf("Decode: %v", err)
	}
	if err := d.Arm(0); err != nil {
		t.Errorf("Arm: %v", err)
	}
	if err := k.Save(raft.Stored{Conf: conf.Conf{1}}); !errors.As(err, &n) || n != api.ErrDown {
		t.Errorf("Save, the power going: %v", err)
	}
	d.Start(nil)
	if err := d.Write(0, []byte{2}); err != nil {
		t.Errorf("Write: %v", err)
	}
	if _, err := stable.Open(d, conf.Conf{1}); !errors.As(err, &n) || n != api.ErrHalt {
		t.Errorf("Open, a mark being 2: %v", err)
	}
}

// TestErrorsAsClient: the same of a client.
func TestErrorsAsClient(t *testing.T) {
	var n api.Errno
	if _, err := client.New(0, []int{1}); !errors.As(err, &n) || n != api.ErrArg {
		t.Errorf("New of the number 0: %v", err)
	}
	c, err := client.New(1, []int{1})
	if err != nil {
		t.Fatalf("New: %v", err)
	}
	if _, err := client.Ask(c, order.Order{}); !errors.As(err, &n) || n != api.ErrGone {
		t.Errorf("Ask without a session: %v", err)
	}
	if c, err = client.Open(c); err != nil {
		t.Errorf("Open: %v", err)
	}
	if _, err := client.Open(c); !errors.As(err, &n) || n != api.ErrBusy {
		t.Errorf("Open of one that is busy: %v", err)
	}
	c, _ = client.Hear(c, client.Answer{Client: 1, Number: 1, Reply: session.Reply{Session: 2}})
	if _, err := client.Ask(c, order.Order{}); err != nil {
		t.Errorf("Ask: %v", err)
	}
	if _, err := client.Decode(nil); !errors.As(err, &n) || n != api.ErrForm {
		t.Errorf("Decode of nothing: %v", err)
	}
	if _, err := client.Decode(client.Encode(client.Request{})); err != nil {
		t.Errorf("Decode: %v", err)
	}
	if _, err := client.DecodeAnswer(nil); !errors.As(err, &n) || n != api.ErrForm {
		t.Errorf("DecodeAnswer of nothing: %v", err)
	}
	if _, err := client.DecodeAnswer(client.EncodeAnswer(client.Answer{})); err != nil {
		t.Errorf("DecodeAnswer: %v", err)
	}
}

// TestErrorsAsServer: the same of a member.
func TestErrorsAsServer(t *testing.T) {
	var n api.Errno
	if _, err := server.Open(nil, server.Config{}, 0); !errors.As(err, &n) || n != api.ErrArg {
		t.Errorf("Open of nothing: %v", err)
	}
	d, err := disk.New(4000)
	if err != nil {
		t.Fatalf("New: %v", err)
	}
	s, err := server.Open(d, server.Config{ID: 1, Span: 2, First: conf.Conf{1}, Most: 6, Wait: 8}, 0)
	if err != nil {
		t.Fatalf("Open: %v", err)
	}
	if _, err := s.Hear(nil, 0); !errors.As(err, &n) || n != api.ErrForm {
		t.Errorf("Hear of no frame: %v", err)
	}
	if _, err := s.Change(conf.Conf{1, 2}); !errors.As(err, &n) || n != api.ErrLead {
		t.Errorf("Change by a follower: %v", err)
	}
	if _, err := s.Entry(1); !errors.As(err, &n) || n != api.ErrNone {
		t.Errorf("Entry: %v", err)
	}
	if o, err := s.Ask(client.Request{}); err != nil || len(o.Answers) != 1 || api.Errno(o.Answers[0].Err) != api.ErrLead {
		t.Errorf("Ask of a follower: %v, %v", o, err)
	}
	if _, err := s.Tick(0); err != nil || s.Dead() != nil {
		t.Errorf("Tick: %v, %v", err, s.Dead())
	}
	if err := d.Arm(0); err != nil {
		t.Errorf("Arm: %v", err)
	}
	if _, err := s.Tick(0); !errors.As(err, &n) || n != api.ErrDown {
		t.Errorf("Tick, the power going: %v", err)
	}
	d.Start(nil)
	if err := s.Dead(); !errors.As(err, &n) || n != api.ErrDown {
		t.Errorf("Dead: %v", err)
	}
	if err := (*server.Server)(nil).Dead(); !errors.As(err, &n) || n != api.ErrArg {
		t.Errorf("Dead of no member: %v", err)
	}
}

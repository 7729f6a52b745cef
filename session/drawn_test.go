package session_test

import (
	"fmt"
	"math/rand"
	"slices"
	"testing"

	"tollbar/api"
	"tollbar/order"
	"tollbar/quota"
	"tollbar/session"
)

// model is a table told as plainly as the document does.
type model struct {
	tree     *quota.Tree
	sessions []seat
}

// seat is a session.
type seat struct {
	number, seq int
	reply       session.Reply
}

// find is the place of a session; -1: there is none.
func (m *model) find(number int) int {
	return slices.IndexFunc(m.sessions, func(s seat) bool { return s.number == number })
}

// apply is what Apply says.
func (m *model) apply(index int, do session.Command) session.Reply {
	if index < 1 || index > api.MaxIndex {
		return refused(api.ErrArg)
	}
	switch do.Kind {
	case 1:
		if len(m.sessions) == 64 {
			return refused(api.ErrFull)
		}
		if m.find(index) >= 0 {
			return refused(api.ErrTwice)
		}
		m.sessions = append(m.sessions, seat{number: index})
		return done(index)
	case 2, 3:
		i := m.find(do.Session)
		if i < 0 {
			return refused(api.ErrGone)
		}
		if do.Kind == 2 {
			m.sessions = slices.Delete(m.sessions, i, i+1)
			return done(do.Session)
		}
		return m.sessions[i].ask(m.tree, do)
	}
	return refused(api.ErrArg)
}

// ask is what Apply says of a session that is there.
func (s *seat) ask(tree *quota.Tree, do session.Command) session.Reply {
	if do.Seq < s.seq {
		return refused(api.ErrOld)
	}
	if do.Seq == s.seq && do.Seq > 0 {
		return s.reply
	}
	if do.Seq != s.seq+1 {
		return refused(api.ErrGap)
	}
	s.seq, s.reply = do.Seq, session.Reply{Session: s.number, Answer: order.Do(tree, do.Order)}
	return s.reply
}

// bytes are what Encode says.
func (m *model) bytes() string {
	l := slices.SortedFunc(slices.Values(m.sessions), func(a, b seat) int { return a.number - b.number })
	var sessions []string
	for _, s := range l {
		a := s.reply.Answer
		answer := fmt.Sprintf("i%d;n%.0f;n%.0f;n%.0f;n%.0f;", a.Err, real(a.Used), imag(a.Used), real(a.Total), imag(a.Total))
		reply := fmt.Sprintf("i%d;i%d;", s.reply.Err, s.reply.Session) + bytes(answer)
		sessions = append(sessions, onSession(fmt.Sprint(s.number), fmt.Sprint(s.seq), reply))
	}
	return onTable(string(m.tree.Encode()), sessions...)
}

// draw draws commands from a few numbers, names and amounts, so that they meet.
type draw struct{ r *rand.Rand }

func (d draw) name() string {
	return []string{"", " ", "a", "b", "c", "d", "a", "b", "c", "d"}[d.r.Intn(10)]
}

func (d draw) amount() complex128 { return c(d.r.Intn(9), d.r.Intn(9)) }

func (d draw) order() order.Order {
	return order.Order{
		Kind: []int{0, 1, 1, 1, 2, 2, 3, 4, 4, 4, 5, 6, 7}[d.r.Intn(13)],
		Node: node(d.name(), d.name(), d.amount(), d.amount(), d.amount()),
		Use:  quota.Use{ID: d.name(), Node: d.name(), Amount: d.amount()},
	}
}

// command is a command, mostly one that follows what was asked for last, or that comes again.
func (d draw) command(m *model, sessions int) session.Command {
	do := session.Command{Kind: session.Ask, Session: d.r.Intn(sessions + 2), Seq: d.r.Intn(5) - 1, Order: d.order()}
	switch d.r.Intn(20) {
	case 0, 1, 2:
		do.Kind = session.Open
	case 3:
		do.Kind = session.Close
	case 4:
		do.Kind = []int{-1, 0, 4, 9}[d.r.Intn(4)]
	}
	if i := m.find(do.Session); i >= 0 && d.r.Intn(8) > 0 {
		do.Seq = m.sessions[i].seq + 1 - d.r.Intn(2)
	}
	return do
}

// TestSE4Drawn: drawn commands, doubled and late, are answered as the document says, by two tables of which one is made of bytes again and again; and they are the same byte by byte.
func TestSE4Drawn(t *testing.T) {
	met := map[string]int{}
	for seed := range 60 {
		d := draw{rand.New(rand.NewSource(int64(seed)))}
		sessions := []int{3, 8, 100}[seed%3]
		table, other := session.New(), session.New()
		m := &model{tree: quota.New()}
		if sessions == 100 {
			// So many that drawn ones fill it.
			for i := range 60 {
				table.Apply(i+1, opens())
				other.Apply(i+1, opens())
				m.apply(i+1, opens())
			}
		}
		var ahead []session.Command
		for range 400 {
			do, index := d.command(m, sessions), d.r.Intn(sessions+2)
			if len(ahead) > 0 && d.r.Intn(4) == 0 {
				do = ahead[len(ahead)-1-d.r.Intn(min(len(ahead), 6))]
			}
			ahead = append(ahead, do)
			before := m.bytes()
			want := m.apply(index, do)
			met[fmt.Sprintf("%d %d", do.Kind, want.Err)]++
			if want.Err == 0 && do.Kind == session.Ask && m.bytes() == before {
				met["again"]++
			}
			if got := table.Apply(index, do); !sameReply(got, want) {
				t.Fatalf("Seed %d: Apply at %d of %v: %v, not %v", seed, index, do, got, want)
			}
			over, err := session.DecodeCommand(session.EncodeCommand(do))
			if err != nil {
				t.Fatalf("DecodeCommand of %v: %v", do, err)
			}
			if got := other.Apply(index, over); !sameReply(got, want) {
				t.Fatalf("Seed %d: Apply at %d of %v, which went over bytes: %v, not %v", seed, index, do, got, want)
			}
			if got := string(table.Encode()); got != m.bytes() || got != string(other.Encode()) {
				t.Fatalf("Seed %d: behind %v: %s, %s, not %s", seed, do, got, other.Encode(), m.bytes())
			}
			if d.r.Intn(10) == 0 {
				other = copied(t, other)
			}
		}
	}
	for _, way := range []string{"1 0", "1 1", "1 9", "1 10", "2 0", "2 1", "2 24", "3 0", "3 1", "3 22", "3 23", "3 24", "4 1", "0 1", "-1 1", "again"} {
		if met[way] < 10 {
			t.Errorf("%s was met %d times", way, met[way])
		}
	}
}

// TestSE4Once: what comes again and again, as often as may be, is done once.
func TestSE4Once(t *testing.T) {
	table := session.New()
	applies(t, table, 1, opens(), done(1))
	applies(t, table, 2, asks(1, 1, add(node("r", "", 100, 0, 0))), told(1, 0, 100))
	for seq := 2; seq < 40; seq++ {
		want := told(1, c(seq-1, 0), 100)
		for index := range 20 {
			if got := table.Apply(index+1, asks(1, seq, admit(fmt.Sprint(seq), "r", 1))); !sameReply(got, want) {
				t.Fatalf("Ask %d, at %d: %v", seq, index+1, got)
			}
		}
		if got := table.Read(query("r")); !sameAnswer(got, want.Answer) || len(table.Tree().Uses()) != seq-1 {
			t.Fatalf("Behind %d: %v, %v", seq, got, table.Tree().Uses())
		}
	}
}

// TestSE4Same: two tables that came to the same by the same commands are the same, byte by byte; tables at other indexes too, but for the numbers of their sessions.
func TestSE4Same(t *testing.T) {
	play := func(off int) string {
		table := session.New()
		table.Apply(3, opens())
		table.Apply(1, opens())
		table.Apply(2, opens())
		for i, do := range []session.Command{
			asks(1, 1, add(node("r", "", 9+9i, 0, 0))), asks(2, 1, add(node("b", "r", 1, 1, 1))), asks(3, 1, add(node("a", "r", 2, 2, 2))),
			asks(1, 2, admit("y", "r", 1)), asks(2, 2, admit("x", "r", 2)), asks(2, 2, admit("x", "r", 2)), closes(3), asks(1, 3, release("y")), asks(7, 1, query("r")), {},
		} {
			table.Apply(off+i, do)
		}
		return all(table)
	}
	first := play(4)
	for range 20 {
		for _, off := range []int{4, 5, 1000, api.MaxIndex - 20} {
			if got := play(off); got != first {
				t.Fatalf("%s, not %s", got, first)
			}
		}
	}
}

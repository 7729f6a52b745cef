package client_test

import (
	"fmt"
	"math/rand"
	"slices"
	"strconv"
	"testing"

	"tollbar/api"
	"tollbar/client"
	"tollbar/order"
	"tollbar/quota"
	"tollbar/session"
)

// model is a client told as plainly as the document does: it asks for something by a text.
type model struct {
	id, session, seq, number int
	busy                     bool
	opens, reads             bool
	next                     int // the number within the session of what it asks for
	now                      string
	member                   int
	members                  []int
}

// ask is what Open and Ask say, where nothing is against it; without an order it opens.
func (m *model) ask(o *order.Order) api.Errno {
	switch {
	case m.number >= api.MaxIndex:
		return api.ErrArg
	case m.busy:
		return api.ErrBusy
	case o != nil && m.session == 0:
		return api.ErrGone
	}
	m.busy, m.number = true, m.number+1
	m.opens, m.reads, m.next = o == nil, o != nil && !changes(o.Kind), 0
	do := session.Command{Kind: 1}
	if o != nil {
		do = session.Command{Kind: 3, Order: *o}
		if !m.reads {
			m.next = m.seq + 1
			do.Session, do.Seq = m.session, m.next
		}
	}
	m.now = shownRequest(client.Request{Client: m.id, Number: m.number, Reads: m.reads, Command: do})
	return 0
}

// turn is what Next says.
func (m *model) turn() {
	if m.busy {
		m.member = m.members[(slices.Index(m.members, m.member)+1)%len(m.members)]
	}
}

// hear is what Hear says.
func (m *model) hear(a client.Answer) bool {
	if !m.busy || a.Client != m.id || a.Number != m.number {
		return false
	}
	if a.Err >= 30 && a.Err <= 32 {
		if slices.Contains(m.members, a.Leader) && a.Leader != m.member {
			m.member = a.Leader
		} else {
			m.turn()
		}
		return false
	}
	m.busy = false
	if a.Err == 0 && a.Reply.Err == 0 {
		if m.opens {
			m.session, m.seq = a.Reply.Session, 0
		} else if !m.reads {
			m.seq = m.next
		}
	}
	if a.Reply.Err == 24 {
		m.session = 0
	}
	return true
}

// shown is it as a text, as that of a client.
func (m *model) shown() string {
	return fmt.Sprintf("ID %d session %d seq %d busy %v now [%s] member %d of %v", m.id, m.session, m.seq, m.busy, m.now, m.member, m.members)
}

// draw draws what is asked for and answered from a few numbers, so that they meet.
type draw struct{ r *rand.Rand }

// one is one of some.
func (d draw) one(l ...int) int { return l[d.r.Intn(len(l))] }

// order is an order of any kind.
func (d draw) order() order.Order {
	return order.Order{Kind: d.one(-1, 0, 1, 2, 3, 4, 4, 5, 6, 6, 7), Node: quota.Node{Name: strconv.Itoa(d.r.Intn(9))}}
}

// answer is an answer, mostly to what is asked for now.
func (d draw) answer(c client.Client) client.Answer {
	a := answers(c, d.one(0, 0, 0, 1, 22, 24, 30, 30, 31, 32, 33), d.r.Intn(6), session.Reply{Err: d.one(0, 0, 0, 0, 10, 22, 24), Session: 1 + d.r.Intn(5)})
	a.Client += d.one(0, 0, 0, 0, 0, 0, 0, 0, 0, 0, 1)
	a.Number += d.one(0, 0, 0, 0, 0, 0, 0, 0, -1, -1, 1)
	return a
}

// TestCL4Drawn: drawn calls, one behind the other: each answers as the document says; while what is asked for is not answered it is the same, under the same number, and the numbers go on by one.
func TestCL4Drawn(t *testing.T) {
	met := map[string]int{}
	for seed := range 400 {
		d := draw{rand.New(rand.NewSource(int64(seed)))}
		members := [][]int{{2}, {1, 2, 3}, {4, 2, 4, 1}, {3, 3, 1}, upTo(5)}[seed%5]
		c, _ := client.New(1+seed%64, members)
		m := &model{id: 1 + seed%64, member: members[0], members: members, now: shownRequest(client.Request{})}
		if seed%3 == 2 {
			// So near the end that drawn ones come there.
			c.Now.Number, m.number = api.MaxIndex-20, api.MaxIndex-20
			m.now = shownRequest(c.Now)
		}
		for range 200 {
			before, what, fresh := c, "", false
			switch d.r.Intn(6) {
			case 0:
				got, err := client.Open(c)
				what = fmt.Sprint("Open ", m.ask(nil))
				c, fresh = taken(t, c, got, err, what)
			case 1, 2:
				o := d.order()
				got, err := client.Ask(c, o)
				what = fmt.Sprint("Ask ", m.ask(&o))
				c, fresh = taken(t, c, got, err, what)
			case 3, 4:
				a := d.answer(c)
				got, ok := client.Hear(c, a)
				what = fmt.Sprint("Hear ", a.Err, " ", a.Reply.Err)
				if want := m.hear(a); ok != want {
					t.Fatalf("Seed %d: %s of %s: %v", seed, what, shown(c), ok)
				}
				if ok == c.Busy {
					what += " as it should"
				}
				c = got
			default:
				c, what = client.Next(c), "Next"
				m.turn()
			}
			met[what]++
			if shown(c) != m.shown() {
				t.Fatalf("Seed %d: behind %s: %s, not %s", seed, what, shown(c), m.shown())
			}
			if n := before.Now.Number; fresh && c.Now.Number != n+1 || !fresh && shownRequest(c.Now) != shownRequest(before.Now) || fresh && before.Busy {
				t.Fatalf("Seed %d: %s: from %s to %s", seed, what, shown(before), shown(c))
			}
		}
	}
	for _, what := range []string{"Open error 0", "Open error 1", "Open error 32", "Ask error 0", "Ask error 1", "Ask error 24", "Ask error 32", "Hear 0 0 as it should", "Hear 30 0", "Hear 31 24", "Hear 32 0", "Hear 0 24 as it should", "Hear 24 0 as it should", "Next"} {
		if met[what] < 30 {
			t.Errorf("%s was met %d times", what, met[what])
		}
	}
}

// taken is the client behind a call that asks for something: the one that it answered, or the one ahead, with an error; and whether it asks for something new.
func taken(t *testing.T, c, got client.Client, err error, what string) (client.Client, bool) {
	t.Helper()
	text := "error 0"
	if err != nil {
		text = err.Error()
	}
	if what[len(what)-len(text):] != text || err != nil && shown(got) != zero {
		t.Fatalf("%s: %v, %s", what, err, shown(got))
	}
	if err != nil {
		return c, false
	}
	return got, true
}

// world is a few members that have one table, of whom one leads, and what is on its way, as bytes.
type world struct {
	t        *testing.T
	d        draw
	table    *session.Table
	index    int
	leader   int
	requests [][]byte
	back     [][]byte
}

// does is what a member does with a request that comes.
func (w *world) does(member int, b []byte) {
	r, err := client.Decode(b)
	if err != nil {
		w.t.Fatalf("Decode of %q: %v", b, err)
	}
	a := client.Answer{Client: r.Client, Number: r.Number, Leader: w.d.one(0, w.leader)}
	switch {
	case member != w.leader:
		a.Err = w.d.one(30, 31)
	case w.d.r.Intn(9) == 0:
		a.Err = 32
	case r.Reads:
		a.Reply = session.Reply{Answer: w.table.Read(r.Command.Order)}
	default:
		w.index++
		a.Reply = w.table.Apply(w.index, r.Command)
	}
	w.back = append(w.back, client.EncodeAnswer(a))
	if w.d.r.Intn(20) == 0 {
		w.leader = 1 + w.d.r.Intn(3)
	}
}

// comes is one of those on their way, the newest or any: it is taken, or lost, or stays, and comes once more.
func (w *world) comes(l *[][]byte) []byte {
	if len(*l) == 0 {
		return nil
	}
	i := w.d.one(len(*l)-1, w.d.r.Intn(len(*l)))
	b := (*l)[i]
	if w.d.r.Intn(4) > 0 {
		*l = slices.Delete(*l, i, i+1)
	}
	if w.d.r.Intn(4) == 0 {
		return nil
	}
	return b
}

// TestCL4Once: a client that asks again till it is answered has each of what it asks for done once, in order, whatever is lost, late and doubled.
func TestCL4Once(t *testing.T) {
	for seed := range 60 {
		w := &world{t: t, d: draw{rand.New(rand.NewSource(int64(seed)))}, table: session.New(), leader: 1 + seed%3}
		c, _ := client.New(1+seed, []int{1, 2, 3})
		c = until(w, c, nil)
		if c.Session == 0 || c.Seq != 0 {
			t.Fatalf("Seed %d: Open: %s", seed, shown(c))
		}
		r := order.Order{Kind: order.AddNode, Node: quota.Node{Name: "r", Own: 1000 + 1000i}}
		c = until(w, c, &r)
		for n := 1; n <= 30; n++ {
			o := order.Order{Kind: order.Admit, Use: quota.Use{ID: strconv.Itoa(n), Node: "r", Amount: complex(float64(n), 1)}}
			c = until(w, c, &o)
			if c.Seq != n+1 || len(w.table.Tree().Uses()) != n {
				t.Fatalf("Seed %d: behind %d: %s, %v", seed, n, shown(c), w.table.Tree().Uses())
			}
			c = until(w, c, &order.Order{Kind: order.Query, Node: quota.Node{Name: "r"}})
			if used, err := w.table.Tree().Used("r"); err != nil || used != complex(float64(n*(n+1)/2), float64(n)) || c.Seq != n+1 {
				t.Fatalf("Seed %d: behind %d: %v, %v", seed, n, used, err)
			}
		}
		if c.Now.Number != 62 {
			t.Errorf("Seed %d: %s", seed, shown(c))
		}
	}
}

// until is a client that asks for something, or opens a session, and is answered.
func until(w *world, c client.Client, o *order.Order) client.Client {
	var err error
	if o == nil {
		c, err = client.Open(c)
	} else {
		c, err = client.Ask(c, *o)
	}
	if err != nil {
		w.t.Fatalf("%v of %s", err, shown(c))
	}
	asked := string(client.Encode(c.Now))
	for range 10000 {
		if string(client.Encode(c.Now)) != asked {
			w.t.Fatalf("It asks for %s now, not %s", client.Encode(c.Now), asked)
		}
		switch w.d.r.Intn(4) {
		case 0:
			w.requests = append(w.requests, client.Encode(c.Now))
		case 1:
			if b := w.comes(&w.requests); b != nil {
				w.does(c.Member, b)
			}
		case 2:
			b := w.comes(&w.back)
			if b == nil {
				continue
			}
			a, err := client.DecodeAnswer(b)
			if err != nil {
				w.t.Fatalf("DecodeAnswer of %q: %v", b, err)
			}
			got, ok := client.Hear(c, a)
			if ok && (a.Err != 0 || a.Reply.Err != 0 || a.Reply.Answer.Err != 0) {
				w.t.Fatalf("%s is answered %s", shown(c), shownAnswer(a))
			}
			if c = got; ok {
				return c
			}
		default:
			if w.d.r.Intn(5) == 0 {
				c = client.Next(c)
			}
		}
	}
	w.t.Fatalf("%s is not answered", shown(c))
	return c
}

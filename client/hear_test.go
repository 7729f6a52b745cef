package client_test

import (
	"fmt"
	"math"
	"slices"
	"testing"

	"tollbar/api"
	"tollbar/client"
	"tollbar/order"
	"tollbar/session"
)

// answers is an answer to what a client asks for now.
func answers(c client.Client, err, leader int, r session.Reply) client.Answer {
	return client.Answer{Client: c.ID, Number: c.Now.Number, Err: err, Leader: leader, Reply: r}
}

// errs are errors' numbers but those behind which another one is asked: 0, all of package api, and such as are about those, or as a smaller number would have for them.
func errs() []int {
	return []int{0, 1, 2, 3, 4, 5, 6, 8, 9, 10, 11, 12, 13, 14, 20, 21, 22, 23, 24, 29, 33, 34, 291, -1, -30, -31, -32, 256, 256 + 30, 1<<16 + 31, 1<<32 + 32, 1 << 32, math.MinInt, math.MaxInt}
}

// waiting are clients that wait for an answer: to an open, to a command, and to a read.
func waiting() map[string]client.Client {
	m := map[string]client.Client{}
	for name, c := range idle(20) {
		open, _ := client.Open(c)
		m[name+", opening"] = open
		if c.Session != 0 {
			ask, _ := client.Ask(c, full(order.AddNode))
			read, _ := client.Ask(c, full(order.Query))
			m[name+", asking"], m[name+", reading"] = ask, read
		}
	}
	return m
}

// hears looks at what a client is behind an answer, and whether it is answered.
func hears(t *testing.T, what string, c client.Client, a client.Answer, want client.Client, answered bool) {
	t.Helper()
	got, ok := client.Hear(c, a)
	if ok != answered {
		t.Errorf("Hear, %s, of %s: %v", what, shownAnswer(a), ok)
	}
	is(t, "Hear, "+what+", of "+shownAnswer(a), got, want)
}

// TestCL2Idle: what waits for nothing hears nothing.
func TestCL2Idle(t *testing.T) {
	for name, c := range idle(20) {
		for _, n := range append(errs(), 30, 31, 32) {
			for _, leader := range []int{0, 1, 2, 4, 7} {
				hears(t, name, c, answers(c, n, leader, session.Reply{Err: n, Session: 8}), c, false)
				hears(t, name, c, answers(c, 0, leader, session.Reply{Err: 24, Session: 8}), c, false)
			}
		}
	}
}

// TestCL2Another: an answer to another client, or to another number, is none.
func TestCL2Another(t *testing.T) {
	for name, c := range waiting() {
		for _, n := range []int{0, 1, 24, 30, 31, 32} {
			for _, off := range []int{-1 << 32, -256, -21, -20, -9, -2, -1, 1, 2, 64, 256, 1 << 32, math.MinInt} {
				a := answers(c, n, 1, session.Reply{Err: n % 30, Session: 8})
				a.Client += off
				hears(t, name, c, a, c, false)
				a.Number += off
				hears(t, name, c, a, c, false)
				a.Client -= off
				hears(t, name, c, a, c, false)
			}
		}
	}
	// It is the client's own number that counts, not what it asks for is said to be of.
	c := with(rich(), func(c *client.Client) { c.Now.Client = 7 })
	a := answers(c, 0, 0, session.Reply{Session: 5})
	hears(t, "of another's", c, a, with(c, func(c *client.Client) { c.Busy, c.Seq = false, 8 }), true)
	a.Client = 7
	hears(t, "to another", c, a, c, false)
}

// TestCL2Elsewhere: with each of the three errors another member is asked, and all else is as it was.
func TestCL2Elsewhere(t *testing.T) {
	l := []struct {
		members              []int
		member, leader, want int
	}{
		{[]int{1, 2, 3}, 1, 0, 2}, {[]int{1, 2, 3}, 2, 0, 3}, {[]int{1, 2, 3}, 3, 0, 1},
		{[]int{1, 2, 3}, 1, 1, 2}, {[]int{1, 2, 3}, 2, 2, 3}, {[]int{1, 2, 3}, 3, 3, 1},
		{[]int{1, 2, 3}, 1, 2, 2}, {[]int{1, 2, 3}, 1, 3, 3}, {[]int{1, 2, 3}, 2, 1, 1}, {[]int{1, 2, 3}, 2, 3, 3}, {[]int{1, 2, 3}, 3, 1, 1}, {[]int{1, 2, 3}, 3, 2, 2},
		{[]int{1, 2, 3}, 1, 4, 2}, {[]int{1, 2, 3}, 3, 64, 1}, {[]int{1, 2, 3}, 2, 65, 3}, {[]int{1, 2, 3}, 2, -1, 3}, {[]int{1, 2, 3}, 2, 257, 3},
		{[]int{1, 2, 3}, 2, 1<<32 + 1, 3}, {[]int{1, 2, 3}, 1, math.MaxInt, 2}, {[]int{1, 2, 3}, 3, math.MinInt, 1},
		// One alone is the next one of its own.
		{[]int{5}, 5, 0, 5}, {[]int{5}, 5, 5, 5}, {[]int{5}, 5, 6, 5}, {[]int{5, 5}, 5, 0, 5},
		// Of one that stands more than once the first place counts.
		{[]int{4, 7, 4, 9}, 4, 0, 7}, {[]int{4, 7, 4, 9}, 4, 4, 7}, {[]int{4, 7, 4, 9}, 7, 0, 4}, {[]int{4, 7, 4, 9}, 9, 0, 4}, {[]int{4, 7, 4, 9}, 9, 4, 4},
		{[]int{1, 1, 2}, 1, 0, 1}, {[]int{1, 1, 2}, 1, 2, 2}, {[]int{1, 1, 2}, 2, 0, 1}, {[]int{2, 1, 1}, 1, 0, 1}, {[]int{2, 1, 1}, 1, 1, 1}, {[]int{2, 1, 1}, 2, 0, 1},
		// Not what is next by its number, but by its place.
		{[]int{9, 3, 6}, 9, 0, 3}, {[]int{9, 3, 6}, 3, 0, 6}, {[]int{9, 3, 6}, 6, 0, 9}, {[]int{9, 3, 6}, 3, 4, 6}, {[]int{9, 3, 6}, 3, 9, 9},
		{upTo(64), 64, 0, 1}, {upTo(64), 63, 65, 64}, {upTo(64), 1, 64, 64}, {down(64), 1, 0, 64}, {down(64), 64, 0, 63}, {down(64), 33, 1, 1},
	}
	for _, x := range l {
		for name, c := range waiting() {
			c = with(c, func(c *client.Client) { c.Members, c.Member = x.members, x.member })
			for _, n := range []int{30, 31, 32} {
				// What is replied beside such an error counts for nothing.
				for _, r := range []session.Reply{{}, {Session: 8}, {Err: int(api.ErrGone), Session: 8}, {Err: 9}} {
					hears(t, name, c, answers(c, n, x.leader, r), with(c, func(c *client.Client) { c.Member = x.want }), false)
				}
			}
		}
	}
}

// settles is what a client is behind an answer, as the document says it.
func settles(c client.Client, a client.Answer) client.Client {
	c.Busy = false
	opened, read := c.Now.Command.Kind == 1, c.Now.Reads
	if opened && a.Err == 0 && a.Reply.Err == 0 {
		c.Session = a.Reply.Session
		c.Seq = 0
	}
	if !opened && !read && a.Err == 0 && a.Reply.Err == 0 {
		c.Seq = c.Now.Command.Seq
	}
	if a.Reply.Err == 24 {
		c.Session = 0
	}
	return c
}

// TestCL2Answered: an answer to an open, to a command and to a read, with each error beside it and in the reply.
func TestCL2Answered(t *testing.T) {
	for name, c := range waiting() {
		for _, n := range errs() {
			for _, m := range append(errs(), 30, 31, 32) {
				for _, number := range []int{0, 1, 8, api.MaxIndex, api.MaxIndex + 1, -1} {
					r := session.Reply{Err: m, Session: number, Answer: order.Answer{Err: m % 7, Used: 1 + 2i, Total: 3 + 4i}}
					a := answers(c, n, number, r)
					hears(t, name, c, a, settles(c, a), true)
				}
			}
		}
	}
}

// TestCL2Plain: the same of a few, told one by one.
func TestCL2Plain(t *testing.T) {
	old := client.Client{ID: 3, Session: 5, Seq: 7, Now: client.Request{Number: 9}, Member: 2, Members: []int{1, 2}}
	opens, _ := client.Open(old)
	asks, _ := client.Ask(old, add("r", 1))
	reads, _ := client.Ask(old, query("r"))
	l := []struct {
		what            string
		c               client.Client
		err, replied    int
		session, number int
	}{
		{"opened", opens, 0, 0, 8, 0}, {"not opened", opens, 1, 0, 5, 7}, {"refused to open", opens, 0, 10, 5, 7}, {"gone at opening", opens, 0, 24, 0, 7}, {"gone at opening, with an error", opens, 33, 24, 0, 7},
		{"done", asks, 0, 0, 5, 8}, {"not done", asks, 33, 0, 5, 7}, {"refused", asks, 0, 23, 5, 7}, {"old", asks, 0, 22, 5, 7}, {"gone", asks, 0, 24, 0, 7}, {"gone, with an error", asks, 2, 24, 0, 7}, {"an error that looks like it", asks, 24, 0, 5, 7},
		{"read", reads, 0, 0, 5, 7}, {"not read", reads, 1, 0, 5, 7}, {"refused to read", reads, 0, 1, 5, 7}, {"gone at reading", reads, 0, 24, 0, 7},
	}
	for _, x := range l {
		want := with(x.c, func(c *client.Client) { c.Busy, c.Session, c.Seq = false, x.session, x.number })
		hears(t, x.what, x.c, answers(x.c, x.err, 1, session.Reply{Err: x.replied, Session: 8}), want, true)
	}
}

// TestCL2Refusal: what the tree refused is answered, too: the number that the session gave it is gone.
func TestCL2Refusal(t *testing.T) {
	c, _ := client.Ask(plain(), add("r", 1))
	a := answers(c, 0, 1, session.Reply{Session: 5, Answer: order.Answer{Err: int(api.ErrTwice)}})
	hears(t, "refused by the tree", c, a, with(c, func(c *client.Client) { c.Busy, c.Seq = false, 8 }), true)
	a.Reply.Answer.Err = int(api.ErrGone)
	hears(t, "with the tree's answer 24", c, a, with(c, func(c *client.Client) { c.Busy, c.Seq = false, 8 }), true)
}

// TestCL2Hand: what it is asked for by hand: a command that is neither an open nor an ask counts as what changes something.
func TestCL2Hand(t *testing.T) {
	for _, kind := range []int{-1, 0, 2, 3, 4, 1<<8 + 1, 1<<32 + 1} {
		for _, number := range []int{math.MinInt, -1, 0, 4, api.MaxIndex, api.MaxIndex + 1} {
			c := with(rich(), func(c *client.Client) { c.Now.Command.Kind, c.Now.Command.Seq = kind, number })
			hears(t, "by hand", c, answers(c, 0, 0, session.Reply{Session: 8}), with(c, func(c *client.Client) { c.Busy, c.Seq = false, number }), true)
			c.Now.Reads = true
			hears(t, "by hand, reading", c, answers(c, 0, 0, session.Reply{Session: 8}), with(c, func(c *client.Client) { c.Busy = false }), true)
		}
	}
}

// TestCL2Once: an answer that comes once more is heard by nobody.
func TestCL2Once(t *testing.T) {
	for name, c := range waiting() {
		a := answers(c, 0, 1, session.Reply{Session: 8})
		done, _ := client.Hear(c, a)
		hears(t, name, done, a, done, false)
		if again, err := client.Open(done); err == nil {
			hears(t, name, again, a, again, false)
		}
	}
}

// TestCL2Next: of one that waits the next one is asked, round all members; of one that does not none.
func TestCL2Next(t *testing.T) {
	for _, members := range lists() {
		ring := slices.Compact(slices.Clone(members))
		if len(ring) != len(members) {
			continue
		}
		for name, c := range waiting() {
			c = with(c, func(c *client.Client) { c.Members, c.Member = members, members[0] })
			want := c
			first := map[int]int{}
			for i, m := range members {
				if _, ok := first[m]; !ok {
					first[m] = i
				}
			}
			for range 2*len(members) + 1 {
				want.Member = members[(first[want.Member]+1)%len(members)]
				c = client.Next(c)
				is(t, "Next, "+name, c, want)
			}
			free := with(c, func(c *client.Client) { c.Busy = false })
			is(t, "Next of one that is not busy, "+name, client.Next(free), free)
		}
	}
}

// TestCL2NextPlain: the same of a few, told one by one.
func TestCL2NextPlain(t *testing.T) {
	for _, x := range []struct {
		members []int
		round   []int
	}{
		{[]int{1}, []int{1, 1}}, {[]int{1, 2, 3}, []int{1, 2, 3, 1, 2, 3}}, {[]int{9, 3, 6}, []int{9, 3, 6, 9}}, {[]int{1, 1, 2}, []int{1, 1, 1}},
		{[]int{2, 1, 1}, []int{2, 1, 1, 1}}, {[]int{4, 7, 4, 9}, []int{4, 7, 4, 7}}, {upTo(64), append(upTo(64), 1, 2)}, {down(64), append(down(64), 64, 63)},
	} {
		c, _ := client.New(1, x.members)
		c, _ = client.Open(c)
		var round []int
		for range x.round {
			round = append(round, c.Member)
			c = client.Next(c)
		}
		if !slices.Equal(round, x.round) {
			t.Errorf("Next of %v: %v, not %v", x.members, round, x.round)
		}
	}
	c, _ := client.New(1, []int{4, 7, 9})
	if c.Member = 9; client.Next(c).Member != 9 {
		t.Errorf("Next of one that asks for nothing: %s", fmt.Sprint(client.Next(c)))
	}
}

package client_test

import (
	"fmt"
	"math"
	"testing"

	"tollbar/api"
	"tollbar/client"
	"tollbar/order"
	"tollbar/session"
)

// kinds are kinds of orders: those that there are, and such as are none, of which some a smaller number would have for one.
func kinds() []int {
	return []int{math.MinInt, -1<<32 + 1, -255, -2, -1, 0, 1, 2, 3, 4, 5, 6, 7, 8, 1<<8 + 1, 1<<16 + 4, 1<<32 + 1, 1<<32 + 6, math.MaxInt}
}

// changes tells whether an order of a kind changes something.
func changes(kind int) bool { return kind >= 1 && kind <= 5 }

// idle are clients that wait for nothing, with a session and without one, by the number of what they asked for last.
func idle(number int) map[string]client.Client {
	of := func(session, seq int, now client.Request, members ...int) client.Client {
		now.Number = number
		return client.Client{ID: 9, Session: session, Seq: seq, Now: now, Member: members[len(members)/2], Members: members}
	}
	return map[string]client.Client{
		"new":            of(0, 0, client.Request{}, 4, 2),
		"opened":         of(5, 0, client.Request{Client: 9, Command: opening()}, 4, 2, 2),
		"behind much":    of(5, 7, client.Request{Client: 9, Command: asking(5, 7, full(1))}, 1),
		"behind a read":  of(5, 7, client.Request{Client: 9, Reads: true, Command: asking(0, 0, query("r"))}, 1, 2, 3),
		"gone":           of(0, 7, client.Request{Client: 9, Command: asking(5, 8, full(1))}, 1, 2, 3),
		"at the end":     of(api.MaxIndex, api.MaxIndex-1, client.Request{Client: 9, Command: asking(5, 8, full(1))}, upTo(64)...),
		"another's":      of(3, 2, client.Request{Client: 1, Reads: true, Command: asking(-1, -2, full(-3))}, 7),
		"gone at number": of(0, api.MaxIndex, client.Request{}, 64),
	}
}

// TestCL1Open: with each number that may be, whatever the client has.
func TestCL1Open(t *testing.T) {
	for _, number := range []int{0, 1, 2, 1<<32 - 1, 1 << 32, api.MaxIndex - 2, api.MaxIndex - 1} {
		for name, c := range idle(number) {
			want := with(c, func(c *client.Client) {
				c.Busy, c.Now = true, client.Request{Client: 9, Number: number + 1, Command: session.Command{Kind: 1}}
			})
			got, err := client.Open(c)
			makes(t, fmt.Sprintf("Open, %s, behind %d", name, number), got, err, want)
		}
	}
}

// TestCL1Ask: of orders of all kinds: with a session, what reads beside it, all else as its next one.
func TestCL1Ask(t *testing.T) {
	for _, number := range []int{0, 1, 2, 1<<32 - 1, 1 << 32, api.MaxIndex - 2, api.MaxIndex - 1} {
		for name, c := range idle(number) {
			for _, kind := range kinds() {
				what := fmt.Sprintf("Ask of the kind %d, %s, behind %d", kind, name, number)
				got, err := client.Ask(c, full(kind))
				if c.Session == 0 {
					fails(t, what, got, err, api.ErrGone)
					continue
				}
				now := client.Request{Client: 9, Number: number + 1, Reads: true, Command: session.Command{Kind: 3, Order: full(kind)}}
				if changes(kind) {
					now.Reads, now.Command.Session, now.Command.Seq = false, c.Session, c.Seq+1
				}
				makes(t, what, got, err, with(c, func(c *client.Client) { c.Busy, c.Now = true, now }))
			}
		}
	}
}

// TestCL1AskSession: of each session that may be, and each number that was asked for last; the last one has one more, too.
func TestCL1AskSession(t *testing.T) {
	for _, number := range indexes()[1:] {
		for _, seq := range indexes() {
			c := with(plain(), func(c *client.Client) { c.Session, c.Seq = number, seq })
			got, err := client.Ask(c, full(order.Release))
			now := client.Request{Client: 3, Number: 10, Command: asking(number, seq+1, full(order.Release))}
			makes(t, fmt.Sprint("Ask of ", number, " ", seq), got, err, with(c, func(c *client.Client) { c.Busy, c.Now = true, now }))
			got, err = client.Ask(c, full(order.Query))
			now = client.Request{Client: 3, Number: 10, Reads: true, Command: asking(0, 0, full(order.Query))}
			makes(t, fmt.Sprint("Ask of ", number, " ", seq), got, err, with(c, func(c *client.Client) { c.Busy, c.Now = true, now }))
		}
	}
}

// TestCL1Errors: which error is named where several would be.
func TestCL1Errors(t *testing.T) {
	for _, number := range []int{0, 1, api.MaxIndex - 1, api.MaxIndex, api.MaxIndex + 1, math.MaxInt, -1} {
		for _, busy := range []bool{false, true} {
			for _, session := range []int{0, 1, api.MaxIndex, api.MaxIndex + 1, -1} {
				c := with(plain(), func(c *client.Client) { c.Now.Number, c.Busy, c.Session = number, busy, session })
				open, ask := api.Errno(0), api.Errno(0)
				switch {
				case number < 0 || number >= api.MaxIndex || session < 0 || session > api.MaxIndex:
					open, ask = api.ErrArg, api.ErrArg
				case busy:
					open, ask = api.ErrBusy, api.ErrBusy
				case session == 0:
					ask = api.ErrGone
				}
				what := fmt.Sprintf("of number %d, busy %v, session %d", number, busy, session)
				got, err := client.Open(c)
				if open != 0 {
					fails(t, "Open "+what, got, err, open)
				} else if err != nil {
					t.Errorf("Open %s: %v", what, err)
				}
				for _, kind := range kinds() {
					got, err = client.Ask(c, full(kind))
					if ask != 0 {
						fails(t, "Ask "+what, got, err, ask)
					} else if err != nil {
						t.Errorf("Ask %s: %v", what, err)
					}
				}
			}
		}
	}
}

// TestCL1Twice: what asks for something asks for nothing else, till that is answered.
func TestCL1Twice(t *testing.T) {
	c, _ := client.New(1, []int{1})
	c, _ = client.Open(c)
	got, err := client.Open(c)
	fails(t, "Open again", got, err, api.ErrBusy)
	got, err = client.Ask(c, query("r"))
	fails(t, "Ask while it opens", got, err, api.ErrBusy)
	c, _ = client.Hear(c, client.Answer{Client: 1, Number: 1, Reply: session.Reply{Session: 2}})
	for number, o := range []order.Order{add("r", 1), query("r"), {}, add("r", 2)} {
		if c, err = client.Ask(c, o); err != nil || c.Now.Number != number+2 {
			t.Fatalf("Ask: %v, %s", err, shown(c))
		}
		got, err = client.Ask(c, o)
		fails(t, "Ask again", got, err, api.ErrBusy)
		got, err = client.Open(c)
		fails(t, "Open while it asks", got, err, api.ErrBusy)
		c, _ = client.Hear(c, client.Answer{Client: 1, Number: number + 2, Reply: session.Reply{Session: 2}})
	}
	// A session may be opened where there is one already: the other one is forgotten with the answer.
	c, err = client.Open(c)
	if err != nil || c.Session != 2 || c.Seq != 2 {
		t.Fatalf("Open: %v, %s", err, shown(c))
	}
	c, _ = client.Hear(c, client.Answer{Client: 1, Number: 6, Reply: session.Reply{Session: 11}})
	if c.Session != 11 || c.Seq != 0 || c.Busy {
		t.Errorf("Hear: %s", shown(c))
	}
}

package client_test

import (
	"fmt"
	"math"
	"slices"
	"strings"
	"testing"

	"tollbar/api"
	"tollbar/client"
	"tollbar/order"
	"tollbar/quota"
	"tollbar/session"
)

// add is something that changes something, query something that reads.
func add(name string, own complex128) order.Order {
	return order.Order{Kind: order.AddNode, Node: quota.Node{Name: name, Own: own}}
}

func query(name string) order.Order {
	return order.Order{Kind: order.Query, Node: quota.Node{Name: name}}
}

// full is an order of a kind of which no part is empty.
func full(kind int) order.Order {
	return order.Order{
		Kind: kind,
		Node: quota.Node{Name: "ab", Parent: "cd", Own: 1 + 2i, Borrow: 3 + 4i, Lend: 5 + 6i},
		Use:  quota.Use{ID: "ef", Node: "gh", Amount: 7 + 8i},
	}
}

// opening is a command that opens a session, asking one that asks for something.
func opening() session.Command { return session.Command{Kind: session.Open} }

func asking(number, seq int, o order.Order) session.Command {
	return session.Command{Kind: session.Ask, Session: number, Seq: seq, Order: o}
}

// shownCommand is a command as a text, with all that is in it.
func shownCommand(c session.Command) string {
	n, u := c.Order.Node, c.Order.Use
	return fmt.Sprintf("%d %d %d order %d node %q %q %v %v %v use %q %q %v", c.Kind, c.Session, c.Seq, c.Order.Kind, n.Name, n.Parent, n.Own, n.Borrow, n.Lend, u.ID, u.Node, u.Amount)
}

// shownRequest is the same of a request, shownAnswer of an answer, and shown of a client.
func shownRequest(r client.Request) string {
	return fmt.Sprintf("client %d number %d reads %v command %s", r.Client, r.Number, r.Reads, shownCommand(r.Command))
}

func shownAnswer(a client.Answer) string {
	r := a.Reply
	return fmt.Sprintf("client %d number %d err %d leader %d reply %d %d answer %d %v %v", a.Client, a.Number, a.Err, a.Leader, r.Err, r.Session, r.Answer.Err, r.Answer.Used, r.Answer.Total)
}

func shown(c client.Client) string {
	return fmt.Sprintf("ID %d session %d seq %d busy %v now [%s] member %d of %v", c.ID, c.Session, c.Seq, c.Busy, shownRequest(c.Now), c.Member, c.Members)
}

// zero is a zero client.
var zero = shown(client.Client{})

// is looks at a client that must be another one.
func is(t *testing.T, what string, got, want client.Client) {
	t.Helper()
	if shown(got) != shown(want) {
		t.Errorf("%s: %s, not %s", what, shown(got), shown(want))
	}
}

// makes looks at a client that a call answered without an error.
func makes(t *testing.T, what string, got client.Client, err error, want client.Client) {
	t.Helper()
	if err != nil {
		t.Errorf("%s: %v", what, err)
	}
	is(t, what, got, want)
}

// fails looks at what a call answered beside an error.
func fails(t *testing.T, what string, got client.Client, err error, want api.Errno) {
	t.Helper()
	if err == nil || err != want || shown(got) != zero {
		t.Errorf("%s: %v, %s, not %v", what, err, shown(got), want)
	}
}

// numbers are numbers of clients and of members, noNumbers are none, about the bounds, and such as a smaller number would have for others.
func numbers() []int { return []int{1, 2, 31, 32, 63, 64} }

func noNumbers() []int {
	return []int{math.MinInt, math.MinInt + 1, 1 - 1<<32, -255, -64, -2, -1, 0, 65, 66, 128, 256, 257, 320, 1<<16 + 1, 1 << 32, 1<<32 + 1, api.MaxIndex, math.MaxInt}
}

// indexes are numbers that a session may have, and what was asked for; noIndexes are none.
func indexes() []int {
	return []int{0, 1, 2, 9, 64, 65, 1 << 31, 1<<32 - 1, 1 << 32, 1<<32 + 1, api.MaxIndex - 1, api.MaxIndex}
}

func noIndexes() []int {
	return []int{math.MinInt, math.MinInt + 1, -api.MaxIndex, 5 - 1<<48, -1 << 32, 1 - 1<<32, -2, -1, api.MaxIndex + 1, api.MaxIndex + 2, 2 * api.MaxIndex, 1 << 48, 1<<48 + 5, math.MaxInt - 1, math.MaxInt}
}

// upTo are the numbers from 1 on.
func upTo(n int) []int {
	l := make([]int, n)
	for i := range l {
		l[i] = i + 1
	}
	return l
}

// down are the same, backwards.
func down(n int) []int {
	l := upTo(n)
	slices.Reverse(l)
	return l
}

// lists are members that may be: in any order, and more than once.
func lists() [][]int {
	return [][]int{
		{1}, {64}, {1, 2}, {2, 1}, {5, 5}, {3, 1, 3, 2}, {7, 7, 7, 8}, {64, 1, 32}, upTo(7), upTo(63), upTo(64), down(63), down(64),
		slices.Repeat([]int{9}, 63), slices.Repeat([]int{9}, 64), slices.Repeat([]int{64, 1}, 32),
	}
}

// noLists are members that may not be.
func noLists() [][]int {
	l := [][]int{nil, {}, make([]int, 0, 9), append(upTo(64), 1), append(down(64), 64), slices.Repeat([]int{9}, 65), slices.Repeat([]int{9}, 66), slices.Repeat([]int{1, 2}, 64), slices.Repeat([]int{1}, 257), slices.Repeat([]int{1}, 1<<16+1)}
	for _, n := range noNumbers() {
		for _, in := range [][]int{{}, {1}, {1, 2, 3}, upTo(63)} {
			for at := range len(in) + 1 {
				l = append(l, slices.Insert(slices.Clone(in), at, n))
			}
		}
	}
	return l
}

// plain is a client that has a session, rich one of which no part is empty, and that is busy.
func plain() client.Client {
	return client.Client{ID: 3, Session: 5, Seq: 7, Now: client.Request{Client: 3, Number: 9}, Member: 2, Members: []int{1, 2, 4}}
}

func rich() client.Client {
	c := plain()
	c.Busy = true
	c.Now.Command = asking(5, 8, full(order.AddNode))
	return c
}

// with is a client with a change, members of its own.
func with(c client.Client, change func(c *client.Client)) client.Client {
	c.Members = slices.Clone(c.Members)
	change(&c)
	return c
}

// states are clients that are alike but for what they wait for, and for their session.
func states() map[string]client.Client {
	m := map[string]client.Client{}
	for name, c := range map[string]client.Client{"plain": plain(), "rich": rich()} {
		m[name] = c
		m[name+", without a session"] = with(c, func(c *client.Client) { c.Session = 0 })
		m[name+", at the last number"] = with(c, func(c *client.Client) { c.Now.Number = api.MaxIndex })
		m[name+", that opens"] = with(c, func(c *client.Client) { c.Now.Command = opening() })
		m[name+", that reads"] = with(c, func(c *client.Client) { c.Now.Reads, c.Now.Command = true, asking(0, 0, query("r")) })
	}
	return m
}

// mayNot are clients that may not be, by name: for each of the reasons, whatever else they are.
func mayNot() map[string]client.Client {
	m := map[string]client.Client{"zero": {}}
	for name, c := range states() {
		put := func(what string, change func(c *client.Client)) { m[name+", "+what] = with(c, change) }
		for _, n := range noNumbers() {
			put(fmt.Sprint("ID ", n), func(c *client.Client) { c.ID, c.Now.Client = n, n })
			put(fmt.Sprint("Member ", n), func(c *client.Client) { c.Member = n })
			put(fmt.Sprint("first, and Member, ", n), func(c *client.Client) { c.Members[0], c.Member = n, n })
			put(fmt.Sprint("last ", n), func(c *client.Client) { c.Members[2] = n })
		}
		for _, n := range []int{3, 5, 63, 64} {
			put(fmt.Sprint("Member is another one: ", n), func(c *client.Client) { c.Member = n })
		}
		for _, n := range noIndexes() {
			put(fmt.Sprint("Session ", n), func(c *client.Client) { c.Session = n })
			put(fmt.Sprint("Seq ", n), func(c *client.Client) { c.Seq = n })
			put(fmt.Sprint("Number ", n), func(c *client.Client) { c.Now.Number = n })
		}
		put("no members", func(c *client.Client) { c.Members = nil })
		put("no members, nor Member", func(c *client.Client) { c.Members, c.Member = nil, 0 })
		put("members of room alone", func(c *client.Client) { c.Members = c.Members[:0] })
		put("65 members", func(c *client.Client) { c.Members = slices.Repeat([]int{2}, 65) })
		put("65 members, of whom one is twice there", func(c *client.Client) { c.Members = append(upTo(64), 2) })
		put("many members", func(c *client.Client) { c.Members = slices.Repeat([]int{2}, 256+1) })
	}
	return m
}

// mayBe are clients that may be, by name, about the bounds; all but those of states are busy.
func mayBe() map[string]client.Client {
	m := states()
	put := func(what string, change func(c *client.Client)) { m[what] = with(rich(), change) }
	for _, n := range numbers() {
		put(fmt.Sprint("ID ", n), func(c *client.Client) { c.ID = n })
		put(fmt.Sprint("alone with ", n), func(c *client.Client) { c.Members, c.Member = []int{n}, n })
	}
	for _, n := range indexes() {
		put(fmt.Sprint("Session ", n), func(c *client.Client) { c.Session = n })
		put(fmt.Sprint("Seq ", n), func(c *client.Client) { c.Seq = n })
		put(fmt.Sprint("Number ", n), func(c *client.Client) { c.Now.Number = n })
	}
	for i, l := range lists() {
		for _, at := range []int{0, len(l) / 2, len(l) - 1} {
			put(fmt.Sprintf("list %d at %d", i, at), func(c *client.Client) { c.Members, c.Member = l, l[at] })
		}
	}
	// What is asked for may be anything, but for its number.
	put("of another client's", func(c *client.Client) { c.Now.Client = 77 })
	put("with a command of none", func(c *client.Client) {
		c.Now.Command = session.Command{Kind: -1, Session: -2, Seq: -3, Order: order.Order{Kind: -4}}
	})
	return m
}

// TestExample: the example of chapter 16.
func TestExample(t *testing.T) {
	c, err := client.New(3, []int{1, 2})
	makes(t, "New", c, err, client.Client{ID: 3, Member: 1, Members: []int{1, 2}})
	c, err = client.Open(c)
	makes(t, "Open", c, err, client.Client{ID: 3, Busy: true, Now: client.Request{Client: 3, Number: 1, Command: opening()}, Member: 1, Members: []int{1, 2}})
	c, ok := client.Hear(c, client.Answer{Client: 3, Number: 1, Reply: session.Reply{Session: 5}})
	if !ok {
		t.Errorf("Hear: not answered")
	}
	is(t, "Hear", c, client.Client{ID: 3, Session: 5, Now: client.Request{Client: 3, Number: 1, Command: opening()}, Member: 1, Members: []int{1, 2}})
	c, err = client.Ask(c, add("r", 5+5i))
	makes(t, "Ask", c, err, client.Client{ID: 3, Session: 5, Busy: true, Now: client.Request{Client: 3, Number: 2, Command: asking(5, 1, add("r", 5+5i))}, Member: 1, Members: []int{1, 2}})
}

// TestCL1New: a client of each number that may be, of all members that may be.
func TestCL1New(t *testing.T) {
	for _, id := range numbers() {
		for _, l := range lists() {
			c, err := client.New(id, l)
			makes(t, fmt.Sprintf("New of %d, %v", id, l), c, err, client.Client{ID: id, Member: l[0], Members: l})
		}
	}
}

// TestCL1NewArg: numbers and members that may not be.
func TestCL1NewArg(t *testing.T) {
	for _, id := range noNumbers() {
		for _, l := range slices.Concat(lists(), noLists()[:9]) {
			c, err := client.New(id, l)
			fails(t, fmt.Sprintf("New of %d, %v", id, l), c, err, api.ErrArg)
		}
	}
	for _, id := range numbers() {
		for _, l := range noLists() {
			c, err := client.New(id, l)
			fails(t, fmt.Sprintf("New of %d, %.200s", id, fmt.Sprint(l)), c, err, api.ErrArg)
		}
	}
}

// TestCL1MayNot: of a client that may not be each call answers ErrArg, ahead of all else, or a zero one.
func TestCL1MayNot(t *testing.T) {
	for name, c := range mayNot() {
		got, err := client.Open(c)
		fails(t, "Open, "+name, got, err, api.ErrArg)
		for kind := -1; kind <= 7; kind++ {
			got, err = client.Ask(c, full(kind))
			fails(t, "Ask, "+name, got, err, api.ErrArg)
		}
		for _, n := range []int{0, 1, 24, 30, 31, 32, 33} {
			for _, leader := range []int{0, 1, 2, c.Member} {
				a := client.Answer{Client: c.ID, Number: c.Now.Number, Err: n, Leader: leader, Reply: session.Reply{Session: 5}}
				if got, ok := client.Hear(c, a); ok || shown(got) != zero {
					t.Errorf("Hear, %s: %v, %s", name, ok, shown(got))
				}
			}
		}
		if got := client.Next(c); shown(got) != zero {
			t.Errorf("Next, %s: %s", name, shown(got))
		}
	}
}

// TestCL1MayBe: of a client that may be none answers so.
func TestCL1MayBe(t *testing.T) {
	for name, c := range mayBe() {
		if got, _ := client.Hear(c, client.Answer{}); shown(got) != shown(c) {
			t.Errorf("Hear, %s: %s, not %s", name, shown(got), shown(c))
		}
		if got := client.Next(c); shown(got) == zero {
			t.Errorf("Next, %s: nothing", name)
		}
		idle := with(c, func(c *client.Client) { c.Busy = false })
		if _, err := client.Open(idle); (err == nil) != (c.Now.Number < api.MaxIndex) {
			t.Errorf("Open, %s: %v", name, err)
		}
	}
}

// TestCL1Texts: no text is looked at: names of any length and of any bytes are asked for as they are.
func TestCL1Texts(t *testing.T) {
	for _, s := range []string{"", "\x00", "\xff;:", strings.Repeat("n", api.MaxLabel), strings.Repeat("n", 5000)} {
		for _, o := range []order.Order{add(s, 1), query(s), {Kind: order.Admit, Use: quota.Use{ID: s, Node: s, Amount: complex(math.Inf(1), math.NaN())}}} {
			c, err := client.Ask(plain(), o)
			if err != nil || shownCommand(session.Command{Order: c.Now.Command.Order}) != shownCommand(session.Command{Order: o}) {
				t.Errorf("Ask: %v, %s", err, shown(c))
			}
		}
	}
}

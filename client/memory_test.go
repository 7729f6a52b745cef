package client_test

import (
	"fmt"
	"slices"
	"testing"

	"tollbar/api"
	"tollbar/client"
	"tollbar/order"
	"tollbar/session"
)

// whole is all of a list, its spare room too.
func whole[T any](l []T) []T { return l[:cap(l)] }

// spoil writes over all of a list, its spare room too.
func spoil[T any](l []T, with T) {
	for i := range whole(l) {
		whole(l)[i] = with
	}
}

// roomy is a list with spare room behind it, in which members stand that could be asked too.
func roomy(l []int) []int {
	return append(slices.Clone(l), slices.Repeat([]int{5}, 9)...)[:len(l)]
}

// told is all that a call tells.
type told struct {
	c   client.Client
	ok  bool
	err error
}

// can is what a call that can fail tells.
func can(c client.Client, err error) told { return told{c: c, err: err} }

// heard is what Hear tells.
func heard(c client.Client, ok bool) told { return told{c: c, ok: ok} }

// show tells it.
func (x told) show() string { return fmt.Sprint(shown(x.c), ", ", x.ok, ", ", x.err) }

// calls are calls of a client, by name, such as succeed and such as do not.
func calls() map[string]func(c client.Client) told {
	m := map[string]func(c client.Client) told{
		"Open":          func(c client.Client) told { return can(client.Open(c)) },
		"Ask":           func(c client.Client) told { return can(client.Ask(c, full(order.AddNode))) },
		"Ask of a read": func(c client.Client) told { return can(client.Ask(c, full(order.Query))) },
		"Next":          func(c client.Client) told { return told{c: client.Next(c)} },
		"Hear of another": func(c client.Client) told {
			return heard(client.Hear(c, client.Answer{Client: c.ID, Number: c.Now.Number + 1}))
		},
		"New": func(c client.Client) told { return can(client.New(c.ID, c.Members)) },
	}
	for _, n := range []int{0, 1, 30, 31, 32} {
		for _, leader := range []int{0, 1, 2, 4, 5} {
			for _, replied := range []int{0, 9, 24} {
				m[fmt.Sprint("Hear ", n, " ", leader, " ", replied)] = func(c client.Client) told {
					return heard(client.Hear(c, answers(c, n, leader, session.Reply{Err: replied, Session: 8})))
				}
			}
		}
	}
	return m
}

// handed are clients that are handed in: those of states, and such as may not be.
func handed() map[string]client.Client {
	m := states()
	m["zero"] = client.Client{}
	m["none"] = with(rich(), func(c *client.Client) { c.ID = 0 })
	m["of a member that is none"] = with(rich(), func(c *client.Client) { c.Members[2] = 0 })
	m["of many"] = with(rich(), func(c *client.Client) { c.Members = upTo(64) })
	m["of too many"] = with(rich(), func(c *client.Client) { c.Members = slices.Repeat([]int{2}, 65) })
	return m
}

// TestRule3Members: no answer shares anything with what is handed in, nor with another answer; what is handed in is not changed, its spare room neither.
func TestRule3Members(t *testing.T) {
	for name, call := range calls() {
		for which, given := range handed() {
			what := name + " of " + which
			c := given
			c.Members = roomy(given.Members)
			before := slices.Clone(whole(c.Members))
			first, second := call(c), call(c)
			want, kept := first.show(), slices.Clone(whole(first.c.Members))
			if second.show() != want {
				t.Errorf("%s: %s, then %s", what, want, second.show())
			}
			spoil(second.c.Members, -7)
			if !slices.Equal(whole(c.Members), before) || shown(c) != shown(given) {
				t.Errorf("%s: what was handed in is %s, not %s", what, shown(c), shown(given))
			}
			spoil(c.Members, -9)
			if first.show() != want || !slices.Equal(whole(first.c.Members), kept) {
				t.Errorf("%s, behind a change of all else: %s, not %s", what, first.show(), want)
			}
		}
	}
}

// TestRule3Forked: a client goes on in two ways, of which none sees the other.
func TestRule3Forked(t *testing.T) {
	c := plain()
	c.Members = roomy(c.Members)
	first, _ := client.Ask(c, add("r", 1))
	second, _ := client.Open(c)
	third := client.Next(first)
	fourth, _ := client.Hear(first, answers(first, 0, 0, session.Reply{Session: 5}))
	l := []client.Client{c, first, second, third, fourth}
	var want []string
	for _, x := range l {
		want = append(want, shown(x))
	}
	for i := range l {
		own := slices.Clone(whole(l[i].Members))
		spoil(l[i].Members, -7)
		for j := range l {
			if j != i && shown(l[j]) != want[j] {
				t.Errorf("%d changes with %d: %s, not %s", j, i, shown(l[j]), want[j])
			}
		}
		copy(whole(l[i].Members), own)
	}
}

// TestRule3Nil: nil and the empty list are the same, with room behind it too.
func TestRule3Nil(t *testing.T) {
	for name, call := range calls() {
		for _, member := range []int{0, 1, 2} {
			c := with(rich(), func(c *client.Client) { c.Members, c.Member = nil, member })
			want := call(c).show()
			for _, l := range [][]int{{}, make([]int, 0, 9), upTo(9)[:0]} {
				c.Members = l
				if got := call(c).show(); got != want {
					t.Errorf("%s of an empty list: %s, not %s", name, got, want)
				}
			}
		}
	}
}

// TestRule3Bytes: bytes that are answered are new memory each time, spare room too.
func TestRule3Bytes(t *testing.T) {
	r := client.Request{Client: 1, Number: 2, Command: command()}
	a := client.Answer{Client: 1, Number: 2, Err: 3, Leader: 4, Reply: reply()}
	for name, call := range map[string]func() []byte{
		"Encode":       func() []byte { return client.Encode(r) },
		"EncodeAnswer": func() []byte { return client.EncodeAnswer(a) },
	} {
		first, second := call(), call()
		want := string(first)
		spoil(first, '!')
		if got := string(second); got != want {
			t.Errorf("%s, behind a change of another answer: %q, not %q", name, got, want)
		}
		if got := string(call()); got != want {
			t.Errorf("%s behind that: %q, not %q", name, got, want)
		}
	}
}

// TestRule3Arguments: bytes that are handed in are neither changed nor kept, right or wrong, with spare room behind them.
func TestRule3Arguments(t *testing.T) {
	r := client.Request{Client: 1, Number: 2, Command: command()}
	a := client.Answer{Client: 1, Number: 2, Err: 3, Leader: 4, Reply: reply()}
	in, out := string(client.Encode(r)), string(client.EncodeAnswer(a))
	for _, s := range []string{in, in[:len(in)-1], in + "n", "", out, out[:len(out)-1], out + "n"} {
		b := append(make([]byte, 0, len(s)+64), s...)
		gotRequest, err := client.Decode(b)
		gotAnswer, wrong := client.DecodeAnswer(b)
		if string(b) != s || string(b[:len(s)+64][len(s):]) != string(make([]byte, 64)) {
			t.Errorf("%q is changed to %q", s, b)
		}
		if (err == nil) != (s == in) || (wrong == nil) != (s == out) {
			t.Errorf("%q: %v, %v", s, err, wrong)
		}
		spoil(b, '!')
		if err == nil && shownRequest(gotRequest) != shownRequest(r) {
			t.Errorf("Behind a change of the bytes: %s", shownRequest(gotRequest))
		}
		if wrong == nil && shownAnswer(gotAnswer) != shownAnswer(a) {
			t.Errorf("Behind a change of the bytes: %s", shownAnswer(gotAnswer))
		}
	}
	for _, b := range [][]byte{nil, {}} {
		if _, err := client.Decode(b); err != api.ErrForm {
			t.Errorf("Decode of nothing: %v", err)
		}
		if _, err := client.DecodeAnswer(b); err != api.ErrForm {
			t.Errorf("DecodeAnswer of nothing: %v", err)
		}
	}
}

// TestRule4: what is answered hangs on the arguments alone: it is the same again, whatever was asked between, and with room behind them.
func TestRule4(t *testing.T) {
	first := map[string]string{}
	for round := range 3 {
		for name, call := range calls() {
			for which, c := range handed() {
				if round == 1 {
					c.Members = roomy(c.Members)
				}
				got, what := call(c).show(), name+" of "+which
				if round == 0 {
					first[what] = got
				} else if got != first[what] {
					t.Errorf("%s: %s, not %s", what, got, first[what])
				}
			}
		}
	}
}

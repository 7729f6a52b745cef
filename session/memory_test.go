package session_test

import (
	"slices"
	"strings"
	"testing"

	"tollbar/session"
)

// spoil writes over all of some bytes, their spare room too.
func spoil(b []byte) {
	b = b[:cap(b)]
	for i := range b {
		b[i] = '!'
	}
}

// TestRule3Bytes: bytes that are answered are new memory each time, spare room too.
func TestRule3Bytes(t *testing.T) {
	table := busier(t)
	calls := map[string]func() []byte{
		"Encode":        table.Encode,
		"Encode of new": session.New().Encode,
		"EncodeCommand": func() []byte { return session.EncodeCommand(asks(1, 2, plainOrder())) },
		"EncodeReply":   func() []byte { return session.EncodeReply(told(1, 2, 3)) },
	}
	for name, call := range calls {
		first, second := call(), call()
		want := string(first)
		spoil(first)
		if got := string(second); got != want {
			t.Errorf("%s, behind a change of another answer: %q, not %q", name, got, want)
		}
		if got := string(call()); got != want {
			t.Errorf("%s behind that: %q, not %q", name, got, want)
		}
	}
}

// TestRule3Sessions: so is the list of all sessions.
func TestRule3Sessions(t *testing.T) {
	table := crowd(t)
	first, second := table.Sessions(), table.Sessions()
	want := slices.Clone(first)
	first = first[:cap(first)]
	for i := range first {
		first[i] = -1
	}
	if !slices.Equal(second, want) || !slices.Equal(table.Sessions(), want) {
		t.Errorf("Sessions: %v, %v, not %v", second, table.Sessions(), want)
	}
}

// TestRule3Arguments: bytes that are handed in are neither changed nor kept, right or wrong, with spare room behind them.
func TestRule3Arguments(t *testing.T) {
	table := busier(t)
	whole := string(table.Encode())
	roomy := func(s string) []byte { return append(make([]byte, 0, len(s)+64), s...) }
	for _, s := range []string{whole, whole[:len(whole)-1], whole + "n", "", strings.Replace(whole, "n9;n1;", "n4;n1;", 1)} {
		b := roomy(s)
		d, err := session.Decode(b)
		if string(b) != s {
			t.Errorf("Decode changes %q to %q", s, b)
		}
		spoil(b)
		if err == nil && all(d) != all(table) {
			t.Errorf("Behind a change of the bytes: %s, not %s", all(d), all(table))
		}
		if (err == nil) != (s == whole) {
			t.Errorf("Decode of %q: %v", s, err)
		}
	}
	do, in := asks(1, 2, plainOrder()), onCommand("3", "1", "2", plain)
	b := roomy(in)
	got, err := session.DecodeCommand(b)
	if string(b) != in || err != nil {
		t.Errorf("DecodeCommand of %q: %v, %q", in, err, b)
	}
	spoil(b)
	if !sameCommand(got, do) {
		t.Errorf("Behind a change of the bytes: %v", got)
	}
	b = roomy(zero)
	if _, err := session.DecodeReply(b); string(b) != zero || err != nil {
		t.Errorf("DecodeReply of %q: %v, %q", zero, err, b)
	}
}

// TestRule3Apart: two tables made of the same bytes go their own ways.
func TestRule3Apart(t *testing.T) {
	b := busier(t).Encode()
	first, second := decodes(t, string(b)), decodes(t, string(b))
	before := all(second)
	applies(t, first, 20, asks(5, 3, release("x")), done(5))
	applies(t, first, 21, closes(9), done(9))
	applies(t, first, 22, opens(), done(22))
	if got := all(second); got != before {
		t.Errorf("%s, not %s", got, before)
	}
}

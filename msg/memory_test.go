package msg_test

import (
	"bytes"
	"slices"
	"testing"

	"tollbar/entry"
	"tollbar/msg"
)

// spare is bytes with spare room behind them.
func spare(b []byte) []byte { return append(make([]byte, 0, len(b)+32), b...) }

// roomy is a message with spare room behind its entries, its data and theirs.
func roomy(m msg.Msg) msg.Msg {
	m.Data = spare(m.Data)
	own := make([]entry.Entry, 0, len(m.Entries)+9)
	for _, e := range m.Entries {
		e.Data = spare(e.Data)
		own = append(own, e)
	}
	m.Entries = own
	return m
}

// spoilBytes writes over all of some bytes, their spare room too.
func spoilBytes(b []byte) {
	b = b[:cap(b)]
	for i := range b {
		b[i] = '!'
	}
}

// spoil writes over all that a message leads to, spare room too.
func spoil(m msg.Msg) {
	spoilBytes(m.Data)
	l := m.Entries[:cap(m.Entries)]
	for i := range l {
		spoilBytes(l[i].Data)
		l[i] = entry.Entry{Index: -7, Term: -7, Kind: -7, Data: []byte("!")}
	}
}

// kept are messages of all sorts: some that may be, some that may not.
func kept() map[string]msg.Msg {
	l := some()
	l["zero"] = msg.Msg{}
	l["too many entries"] = changed(func(m *msg.Msg) { m.Entries = row(6, mostEntries+1) })
	l["too much data"] = changed(func(m *msg.Msg) { m.Data = data(mostData + 1) })
	l["an entry that may not be"] = changed(func(m *msg.Msg) { m.Entries[1].Kind = 3 })
	return l
}

// TestRule3Message: no call changes the message that it is given, nor lays anything in the room behind its lists.
func TestRule3Message(t *testing.T) {
	for name, m := range kept() {
		own := roomy(m)
		msg.Check(own)
		msg.Encode(own)
		msg.Seal(own)
		if told(own) != told(m) {
			t.Errorf("%s: %s by now", name, short(told(own)))
		}
		for _, b := range own.Data[len(own.Data):cap(own.Data)] {
			if b != 0 {
				t.Errorf("%s: %q behind the data", name, b)
			}
		}
		for _, e := range own.Entries {
			for _, b := range e.Data[len(e.Data):cap(e.Data)] {
				if b != 0 {
					t.Errorf("%s: %q behind an entry's data", name, b)
				}
			}
		}
		for _, e := range own.Entries[len(own.Entries):cap(own.Entries)] {
			if e.Index != 0 || e.Term != 0 || e.Kind != 0 || e.Data != nil {
				t.Errorf("%s: %v behind the entries", name, e)
			}
		}
	}
}

// TestRule3Encoded: a message's bytes, and its frame, share nothing with it, nor with those of another call.
func TestRule3Encoded(t *testing.T) {
	for call, lay := range map[string]func(m msg.Msg) []byte{"Encode": msg.Encode, "Seal": msg.Seal} {
		for name, m := range kept() {
			own := roomy(m)
			first, second := lay(own), lay(own)
			want := string(first)
			if string(second) != want {
				t.Errorf("%s of %s: %q, then %q", call, name, short(want), short(string(second)))
			}
			spoilBytes(first)
			if string(second) != want || told(own) != told(m) {
				t.Errorf("%s of %s, behind a change of an answer: %q, of %s", call, name, short(string(second)), short(told(own)))
			}
			spoil(own)
			if string(second) != want {
				t.Errorf("%s of %s, behind a change of the message: %q", call, name, short(string(second)))
			}
		}
	}
}

// taker is a call that makes messages of bytes, and what makes these.
type taker struct {
	take func(b []byte) (msg.Msg, error)
	lay  func(m msg.Msg) []byte
}

// takers are those calls.
func takers() map[string]taker {
	return map[string]taker{"Decode": {msg.Decode, msg.Encode}, "Open": {msg.Open, msg.Seal}}
}

// TestRule3Bytes: no call changes the bytes that it is given, or the room behind them, nor does an answer share anything with them, or with another one.
func TestRule3Bytes(t *testing.T) {
	for call, c := range takers() {
		for name, m := range some() {
			s := c.lay(m)
			b := spare(s)
			first, err := c.take(b)
			second, err2 := c.take(b)
			if err != nil || err2 != nil || told(first) != told(m) || told(second) != told(m) {
				t.Fatalf("%s of %s: %v, %v", call, name, err, err2)
			}
			spoil(second)
			if told(first) != told(m) || !bytes.Equal(b, s) {
				t.Errorf("%s of %s, behind a change of another answer: %s", call, name, short(told(first)))
			}
			for _, x := range b[len(b):cap(b)] {
				if x != 0 {
					t.Errorf("%s of %s: %q behind the bytes", call, name, x)
				}
			}
			spoilBytes(b)
			if told(first) != told(m) {
				t.Errorf("%s of %s, behind a change of the bytes: %s", call, name, short(told(first)))
			}
		}
	}
}

// TestRule3Refused: bytes that are refused are as they were.
func TestRule3Refused(t *testing.T) {
	for call, c := range takers() {
		for name, m := range some() {
			s := c.lay(m)
			for _, in := range [][]byte{s[:len(s)-1], s[1:], append(slices.Clone(s), '!'), s[:len(s)/2]} {
				b := spare(in)
				if _, err := c.take(b); err == nil || !bytes.Equal(b, in) {
					t.Errorf("%s of %s: %v, %q by now", call, name, err, short(string(b)))
				}
				for _, x := range b[len(b):cap(b)] {
					if x != 0 {
						t.Errorf("%s of %s: %q behind the bytes", call, name, x)
					}
				}
			}
		}
	}
}

// TestRule3Apart: no two lists of a message that was read share any room.
func TestRule3Apart(t *testing.T) {
	m := changed(func(m *msg.Msg) { m.Data, m.Entries = data(33), row(6, 9) })
	for call, c := range takers() {
		for at := -1; at < len(m.Entries); at++ {
			got, err := c.take(c.lay(m))
			if err != nil {
				t.Fatalf("%s: %v", call, err)
			}
			want := roomy(m)
			if at < 0 {
				spoilBytes(got.Data)
				got.Data, want.Data = nil, nil
			} else {
				spoilBytes(got.Entries[at].Data)
				got.Entries[at].Data, want.Entries[at].Data = nil, nil
			}
			if told(got) != told(want) {
				t.Errorf("%s, behind a change of the data at %d: %s", call, at, told(got))
			}
		}
	}
}

// TestRule3Shared: lists that are the same in what is handed in are so no more in what is read.
func TestRule3Shared(t *testing.T) {
	b := spare([]byte("shared"))
	m := changed(func(m *msg.Msg) {
		m.Data, m.Entries = b, []entry.Entry{{Index: 1, Term: 1, Data: b}, {Index: 2, Term: 1, Data: b}}
	})
	mayBe(t, "with data that are shared", m)
	for call, c := range takers() {
		got, err := c.take(c.lay(m))
		if err != nil {
			t.Fatalf("%s: %v", call, err)
		}
		for _, l := range [][]byte{got.Data, got.Entries[0].Data, got.Entries[1].Data} {
			if string(l) != "shared" {
				t.Errorf("%s: %q", call, l)
			}
			spoilBytes(l)
		}
	}
	if string(b) != "shared" {
		t.Errorf("What was handed in: %q", b)
	}
}

// TestRule4: what a call answers hangs on its arguments alone: it is the same again, whatever was asked between.
func TestRule4(t *testing.T) {
	first := map[string]string{}
	for range 3 {
		for name, m := range kept() {
			got, err := msg.Open(msg.Seal(m))
			s := frameOf(m) + told(got)
			if err != nil {
				s += err.Error()
			}
			if was, ok := first[name]; ok && was != s {
				t.Errorf("%s: %q, then %q", name, short(was), short(s))
			}
			first[name] = s
		}
	}
}

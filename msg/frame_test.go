package msg_test

import (
	"strconv"
	"strings"
	"testing"

	"tollbar/api"
	"tollbar/entry"
	"tollbar/msg"
	"tollbar/seal"
)

// frameOf is a message's frame.
func frameOf(m msg.Msg) string { return string(msg.Seal(m)) }

// sumText is the sum of a text as a frame has it.
func sumText(s string) string {
	sum := seal.Sum([]byte(s))
	return string([]byte{byte(sum), byte(sum >> 8), byte(sum >> 16), byte(sum >> 24)})
}

// TestMS2Greatest: the frame of the message that may be with the most bytes.
func TestMS2Greatest(t *testing.T) {
	m := greatest()
	mayBe(t, "the greatest", m)
	if got, err := msg.Open(msg.Seal(m)); err != nil || told(got) != told(m) {
		t.Errorf("Open of the greatest: %s, %v", short(told(got)), err)
	}
	// Kind, From and To, six great numbers, OK, the data, the count, 64 entries; the kind of the frame ahead, the sum behind.
	want := 3 + 4 + 4 + 6*15 + 1 + (6 + mostData) + 4 + mostEntries*(6+15+15+3+6+mostData)
	if got := len(msg.Seal(m)); got != 1+want+4 {
		t.Errorf("A frame of %d bytes, not %d", got, 1+want+4)
	}
	m.Entries = append(m.Entries, m.Entries[0])
	mayNotBe(t, "the greatest with an entry more", m)
}

// dataFor is a message of which the bytes are so many, by its data.
func dataFor(t *testing.T, m msg.Msg, n int) msg.Msg {
	t.Helper()
	m.Data = nil
	head := len(text(m)) - len("0")
	for digits := 1; digits < 9; digits++ {
		if rest := n - head - digits; rest >= 0 && len(strconv.Itoa(rest)) == digits {
			m.Data = []byte(strings.Repeat("d", rest))
			if got := len(text(m)); got != n {
				t.Fatalf("%d bytes, not %d", got, n)
			}
			return m
		}
	}
	t.Fatalf("no data for %d bytes", n)
	return m
}

// TestMS2Sealed: as many bytes as may be sealed, and more, of messages that may not be and have bytes for all that.
func TestMS2Sealed(t *testing.T) {
	for name, m := range map[string]msg.Msg{"zero": {}, "plain": plain(), "the greatest": greatest()} {
		for _, n := range []int{api.MaxBytes - 2, api.MaxBytes - 1, api.MaxBytes} {
			m = dataFor(t, m, n)
			mayNotBe(t, name+", with as much data as may be sealed", m)
			if got := len(msg.Seal(m)); got != n+5 {
				t.Errorf("%s: a frame of %d bytes, not %d", name, got, n+5)
			}
		}
		for _, n := range []int{api.MaxBytes + 1, api.MaxBytes + 2, api.MaxBytes + 5, 2 * api.MaxBytes} {
			m = dataFor(t, m, n)
			unsealed(t, name+", with more data than may be sealed", m)
		}
	}
}

// unsealed looks at every call on a message of which the bytes are more than may be sealed.
func unsealed(t *testing.T, what string, m msg.Msg) {
	t.Helper()
	if err := msg.Check(m); err != api.ErrArg {
		t.Errorf("Check, %s: %v", what, err)
	}
	if got := string(msg.Encode(m)); got != text(m) {
		t.Errorf("Encode, %s: %q", what, short(got))
	}
	if got := msg.Seal(m); len(got) != 0 {
		t.Errorf("Seal, %s: %d bytes", what, len(got))
	}
	unread(t, what, text(m))
	unopened(t, what, string(msg.Seal(m)))
}

// TestMS2SealedEntries: the same by entries: by many, and by one.
func TestMS2SealedEntries(t *testing.T) {
	m := greatest()
	for range 2 {
		m.Entries = append(m.Entries, m.Entries[:mostEntries]...)
		mayNotBe(t, "with many entries", m)
	}
	m.Entries = append(m.Entries, m.Entries[:mostEntries]...)
	unsealed(t, "with more entries", m)
	unsealed(t, "with very many entries", changed(func(m *msg.Msg) { m.Entries = row(6, api.MaxBytes/8) }))
	unsealed(t, "with a great entry", changed(func(m *msg.Msg) { m.Entries = []entry.Entry{{Index: 7, Term: 2, Data: data(api.MaxBytes)}} }))
}

// TestMS2Kind: a message's bytes sealed with each kind.
func TestMS2Kind(t *testing.T) {
	for name, m := range some() {
		for kind := range 256 {
			in := framed(byte(kind), text(m))
			if kind != frameKind {
				unopened(t, name+", of the kind "+strconv.Itoa(kind), in)
			} else if got, err := msg.Open([]byte(in)); err != nil || told(got) != told(m) {
				t.Errorf("Open, %s: %s, %v", name, told(got), err)
			}
		}
	}
	if got := msg.Seal(plain()); got[0] != 'm' {
		t.Errorf("Seal: of the kind %d", got[0])
	}
}

// TestMS2Nothing: nothing, what is too short to be sealed, and what is sealed and no message.
func TestMS2Nothing(t *testing.T) {
	if got, err := msg.Open(nil); err != api.ErrForm || told(got) != told(msg.Msg{}) {
		t.Errorf("Open of nil: %s, %v", told(got), err)
	}
	for n := range 12 {
		unopened(t, "of noughts", strings.Repeat("\x00", n))
		unopened(t, "of ones", strings.Repeat("\xff", n))
		unopened(t, "of the kind alone", strings.Repeat("m", n))
	}
	for _, s := range []string{"", "\x00", "m", "n", "n1;", "abc", "n1;n1;n2;n3;", text(msg.Msg{}), text(plain())[1:], string(data(256))} {
		unopened(t, "of what is no message", framed(frameKind, s))
		unopened(t, "of what is no message, and is not sealed", s)
	}
	for _, m := range some() {
		unopened(t, "of a message's bytes alone", text(m))
		unopened(t, "without its kind", text(m)+sumText("m"+text(m)))
		unopened(t, "with the sum of the bytes alone", "m"+text(m)+sumText(text(m)))
		unopened(t, "without a sum", "m"+text(m))
		unopened(t, "with a sum of noughts", "m"+text(m)+"\x00\x00\x00\x00")
		s := sumText("m" + text(m))
		unopened(t, "with its sum the other way round", "m"+text(m)+string([]byte{s[3], s[2], s[1], s[0]}))
	}
	unopened(t, "of more than may be sealed", framed(frameKind, string(data(api.MaxBytes+1))))
	unopened(t, "of as much as may be sealed", framed(frameKind, string(data(api.MaxBytes))))
}

// TestMS2MayNot: frames of messages that may not be.
func TestMS2MayNot(t *testing.T) {
	for _, m := range []msg.Msg{
		{}, changed(func(m *msg.Msg) { m.Kind = 7 }), changed(func(m *msg.Msg) { m.To = m.From }), changed(func(m *msg.Msg) { m.Term = 0 }),
		changed(func(m *msg.Msg) { m.Off = -1 }), changed(func(m *msg.Msg) { m.Data = data(mostData + 1) }),
		changed(func(m *msg.Msg) { m.Entries = row(6, mostEntries+1) }), changed(func(m *msg.Msg) { m.Entries[1].Term = 0 }),
	} {
		if len(msg.Seal(m)) != len(text(m))+5 {
			t.Errorf("Seal of %s: %d bytes", short(told(m)), len(msg.Seal(m)))
		}
		unopened(t, "of what may not be", frameOf(m))
	}
}

// TestMS3Changed: a frame of which a byte is another one, each in turn.
func TestMS3Changed(t *testing.T) {
	for name, m := range some() {
		s := frameOf(m)
		for i := range len(s) {
			for n := 1; n < 256; n++ {
				// Of a long frame not each other one: every bit alone, and some more.
				if len(s) < 80 || n&(n-1) == 0 || n%37 == i%37 {
					unopened(t, name+", a byte another one", s[:i]+string([]byte{s[i] ^ byte(n)})+s[i+1:])
				}
			}
		}
	}
}

// TestMS3Cut: a frame cut at each place, from behind and from ahead.
func TestMS3Cut(t *testing.T) {
	for name, m := range some() {
		s := frameOf(m)
		for i := range len(s) {
			unopened(t, name+", cut", s[:i])
			unopened(t, name+", without its begin", s[i+1:])
			unopened(t, name+", a byte left out", s[:i]+s[i+1:])
		}
	}
}

// TestMS3More: a frame with a byte more, at each place.
func TestMS3More(t *testing.T) {
	for name, m := range some() {
		s := frameOf(m)
		for b := range 256 {
			unopened(t, name+", a byte behind", s+string([]byte{byte(b)}))
			unopened(t, name+", a byte ahead", string([]byte{byte(b)})+s)
		}
		for i := range len(s) + 1 {
			for _, b := range []byte{0, 1, '0', '1', ';', 'm', 'n', 'z', 255} {
				unopened(t, name+", a byte more", s[:i]+string([]byte{b})+s[i:])
			}
		}
		unopened(t, name+", twice", s+s)
		unopened(t, name+", with noughts behind", s+"\x00\x00\x00\x00")
		unopened(t, name+", with its sum behind", s+sumText(s))
		unopened(t, name+", sealed again", framed(frameKind, s))
	}
}

// TestMS3CutSealed: a frame that, cut at a place, has the right sum there: its begin is no message all the same.
func TestMS3CutSealed(t *testing.T) {
	for _, n := range []int{1, 7, 100} {
		m := changed(func(m *msg.Msg) { m.Data = []byte(strings.Repeat("d", n+4+9)) })
		s := "m" + text(m)
		at := strings.Index(s, ":") + 1 + n
		copy(m.Data[n:], sumText(s[:at]))
		s = frameOf(m)
		kind, between, err := seal.Open([]byte(s[:at+4]))
		if kind != frameKind || err != nil || string(between) != s[1:at] {
			t.Fatalf("The begin: %d, %q, %v", kind, between, err)
		}
		unopened(t, "cut where a sum stands", s[:at+4])
		mayBe(t, "with a sum in its data", m)
	}
}

// TestMS3MoreSealed: a message's bytes with more behind, and the right sum: no message all the same.
func TestMS3MoreSealed(t *testing.T) {
	for name, m := range some() {
		for b := range 256 {
			unopened(t, name+", a byte more, and sealed", framed(frameKind, text(m)+string([]byte{byte(b)})))
		}
		unopened(t, name+", cut, and sealed", framed(frameKind, text(m)[:len(text(m))-1]))
	}
}

// TestMS3Burst: whatever is changed within four bytes that follow one another.
func TestMS3Burst(t *testing.T) {
	for name, m := range some() {
		s := frameOf(m)
		for i := range len(s) - 3 {
			for _, n := range []string{"\x01\x00\x00\x80", "\xff\xff\xff\xff", "\x80\x00\x00\x01", "\x01\x01\x01\x01", "\x12\x34\x56\x78"} {
				b := []byte(s)
				for j := range 4 {
					b[i+j] ^= n[j]
				}
				unopened(t, name+", four bytes others", string(b))
			}
		}
	}
}

// TestMS3Great: some changes, cuts and bytes more of the greatest frame.
func TestMS3Great(t *testing.T) {
	s := frameOf(greatest())
	places := []int{0, 1, 2, 100, 101, len(s) / 2, len(s) - 6, len(s) - 5, len(s) - 4, len(s) - 3, len(s) - 2, len(s) - 1}
	for i := 1; i < len(s); i += 9973 {
		places = append(places, i)
	}
	for _, i := range places {
		unopened(t, "the greatest, a byte another one", s[:i]+string([]byte{s[i] ^ 1})+s[i+1:])
		unopened(t, "the greatest, cut", s[:i])
		unopened(t, "the greatest, a byte more", s[:i]+"d"+s[i:])
	}
	for b := range 256 {
		if b%16 == 0 {
			unopened(t, "the greatest, a byte behind", s+string([]byte{byte(b)}))
		}
	}
}

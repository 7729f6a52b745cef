package msg_test

import (
	"math"
	"math/rand"
	"testing"

	"tollbar/api"
	"tollbar/entry"
	"tollbar/msg"
)

// drawNumber draws a number, mostly from a least to a most one.
func drawNumber(r *rand.Rand, least, most int) int {
	switch r.Intn(60) {
	case 0:
		return least - 1
	case 1:
		return most + 1
	case 2:
		return int(r.Uint64())
	case 3:
		return []int{math.MinInt, -1, math.MaxInt}[r.Intn(3)]
	}
	switch r.Intn(4) {
	case 0:
		return least + r.Intn(min(most-least+1, 3))
	case 1:
		return most - r.Intn(min(most-least+1, 3))
	}
	return least + r.Intn(min(most-least+1, 1<<r.Intn(40)+1))
}

// drawData draws data, mostly short, and seldom too long.
func drawData(r *rand.Rand) []byte {
	n := r.Intn(40)
	switch r.Intn(60) {
	case 0:
		n = mostData + 1 + r.Intn(9)
	case 1, 2:
		n = mostData - r.Intn(2)
	case 3, 4, 5:
		return nil
	}
	b := make([]byte, n)
	r.Read(b)
	return b
}

// drawEntry draws an entry.
func drawEntry(r *rand.Rand) entry.Entry {
	e := entry.Entry{Index: 1 + r.Intn(api.MaxIndex), Term: 1 + r.Intn(100), Kind: r.Intn(3), Data: drawData(r)}
	switch r.Intn(90) {
	case 0:
		e.Index = drawNumber(r, 1, api.MaxIndex)
	case 1:
		e.Term = drawNumber(r, 1, api.MaxIndex)
	case 2:
		e.Kind = drawNumber(r, entry.Empty, entry.Member)
	}
	return e
}

// drawMessage draws a message, one that may be mostly.
func drawMessage(r *rand.Rand) msg.Msg {
	m := msg.Msg{OK: r.Intn(2) == 0, Data: drawData(r)}
	for _, f := range fields() {
		f.set(&m, drawNumber(r, f.least, f.most))
	}
	n := r.Intn(6)
	switch r.Intn(30) {
	case 0:
		n = mostEntries - r.Intn(2)
	case 1:
		n = mostEntries + 1 + r.Intn(9)
	}
	for range n {
		m.Entries = append(m.Entries, drawEntry(r))
	}
	return m
}

// stands is the chapter's words on a message that may be.
func stands(m msg.Msg) bool {
	ok := m.Kind >= 1 && m.Kind <= 6
	ok = ok && m.From >= 1 && m.From <= 64 && m.To >= 1 && m.To <= 64 && m.From != m.To
	ok = ok && m.Term >= 1 && m.Term <= api.MaxIndex
	for _, n := range []int{m.Index, m.LogTerm, m.Commit, m.Round, m.Off} {
		ok = ok && n >= 0 && n <= api.MaxIndex
	}
	ok = ok && len(m.Data) <= 4096 && len(m.Entries) <= 64
	for _, e := range m.Entries {
		ok = ok && e.Index >= 1 && e.Index <= api.MaxIndex && e.Term >= 1 && e.Term <= api.MaxIndex && e.Kind >= 0 && e.Kind <= 2 && len(e.Data) <= 4096
	}
	return ok
}

// spoilFrame changes a frame: a byte another one, or up to four that follow one another, a cut, a byte more.
func spoilFrame(r *rand.Rand, s string) string {
	b, at := []byte(s), r.Intn(len(s))
	switch r.Intn(4) {
	case 0:
		b[at] ^= byte(1 + r.Intn(255))
	case 1:
		b[at] ^= byte(1 + r.Intn(255))
		for i := at + 1; i < min(at+4, len(b)); i++ {
			b[i] ^= byte(r.Intn(256))
		}
	case 2:
		b = b[:at]
	default:
		b = append(b, byte(r.Intn(256)))
	}
	return string(b)
}

// TestMS3Drawn: a message that may be is made of its bytes, and of its frame, again; no other one is, and no frame that was changed.
func TestMS3Drawn(t *testing.T) {
	r := rand.New(rand.NewSource(11))
	may, not := 0, 0
	for range 6000 {
		m := drawMessage(r)
		if stands(m) {
			may++
			mayBe(t, "drawn", m)
		} else {
			not++
			mayNotBe(t, "drawn", m)
		}
		s := frameOf(m)
		for range 4 {
			unopened(t, "drawn and changed", spoilFrame(r, s))
		}
	}
	if may < 1000 || not < 1000 {
		t.Errorf("%d that may be, %d that may not", may, not)
	}
}

// TestMS3Apart: two messages have the same bytes, or the same frame, only where they are the same.
func TestMS3Apart(t *testing.T) {
	r := rand.New(rand.NewSource(12))
	seen := map[string]string{}
	for range 20000 {
		m := msg.Msg{Kind: 1 + r.Intn(6), From: 1 + r.Intn(12), To: 1 + r.Intn(2), Term: 1 + r.Intn(12), Round: r.Intn(2), OK: r.Intn(2) == 0, Off: r.Intn(2), Data: []byte("n1;n1;b0:")[:r.Intn(10)]}
		for range r.Intn(3) {
			m.Entries = append(m.Entries, entry.Entry{Index: 1 + r.Intn(2), Term: 1, Kind: r.Intn(2), Data: []byte("n1;")[:r.Intn(4)]})
		}
		for _, s := range []string{string(msg.Encode(m)), frameOf(m)} {
			if other, ok := seen[s]; ok && other != told(m) {
				t.Errorf("%s and %s are both %q", other, told(m), s)
			}
			seen[s] = told(m)
		}
	}
}

// TestMS1Drawn: whatever bytes are put together of pieces of messages, those of which a message is read are its own.
func TestMS1Drawn(t *testing.T) {
	r := rand.New(rand.NewSource(13))
	taken := 0
	for range 60000 {
		m := msg.Msg{Kind: 1 + r.Intn(6), From: 1 + r.Intn(64), To: 1 + r.Intn(64), Term: 1 + r.Intn(99), OK: r.Intn(2) == 0, Data: []byte("ab"), Entries: row(r.Intn(9), r.Intn(3))}
		l := parts(m)
		for range r.Intn(4) {
			other := parts(drawMessage(r))
			l[r.Intn(len(l))] = other[r.Intn(len(other))]
		}
		s := ""
		for _, part := range l {
			s += part
		}
		got, err := msg.Decode([]byte(s))
		if err != nil {
			if err != api.ErrForm || told(got) != told(msg.Msg{}) {
				t.Errorf("Decode of %q: %s, %v", short(s), told(got), err)
			}
			continue
		}
		taken++
		if string(msg.Encode(got)) != s || !stands(got) {
			t.Errorf("Decode of %q: %s", short(s), short(told(got)))
		}
	}
	if taken < 1000 || taken > 59000 {
		t.Errorf("%d taken", taken)
	}
}

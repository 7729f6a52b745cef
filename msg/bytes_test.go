package msg_test

import (
	"slices"
	"strconv"
	"strings"
	"testing"

	"tollbar/api"
	"tollbar/entry"
	"tollbar/msg"
)

// some are messages that may be, short and long.
func some() map[string]msg.Msg {
	return map[string]msg.Msg{
		"the example":    {Kind: msg.Vote, From: 1, To: 2, Term: 3},
		"the shortest":   {Kind: 1, From: 1, To: 2, Term: 1},
		"plain":          plain(),
		"of long ones":   {Kind: msg.Pieced, From: 64, To: 63, Term: api.MaxIndex, Index: api.MaxIndex, LogTerm: api.MaxIndex, Commit: api.MaxIndex, Round: api.MaxIndex, Off: api.MaxIndex},
		"a piece":        {Kind: msg.Piece, From: 3, To: 4, Term: 12, Index: 10, LogTerm: 11, OK: true, Off: 1024, Data: data(300)},
		"with a message": {Kind: msg.Piece, From: 3, To: 4, Term: 12, Data: []byte(text(plain()))},
		"many entries":   {Kind: msg.Append, From: 3, To: 4, Term: 12, Entries: row(20, 12)},
		"empty entries":  {Kind: msg.Append, From: 3, To: 4, Term: 12, Entries: []entry.Entry{{Index: 1, Term: 1}, {Index: 2, Term: 1}}},
	}
}

// TestMS1Cut: no begin of a message's bytes is one's, and no end of them is.
func TestMS1Cut(t *testing.T) {
	for name, m := range some() {
		s := text(m)
		reads(t, name, s, m)
		for i := range len(s) {
			unread(t, name+", cut short", s[:i])
			unread(t, name+", without its begin", s[i+1:])
		}
	}
	if _, err := msg.Decode(nil); err != api.ErrForm {
		t.Errorf("Decode of nil: %v", err)
	}
}

// TestMS1Behind: more behind a message's bytes, or ahead of them.
func TestMS1Behind(t *testing.T) {
	for name, m := range some() {
		s := text(m)
		for _, more := range []string{"\x00", " ", ";", ":", "0", "n", "n0;", "n1;", "y", "z", "t0:", "b0:", "b12:n7;n7;n0;b0:", "i0;", s} {
			unread(t, name+", with more behind", s+more)
			unread(t, name+", with more ahead", more+s)
		}
		for b := range 256 {
			unread(t, name+", with a byte behind", s+string([]byte{byte(b)}))
		}
	}
}

// badDigits are digits that no number is told by.
func badDigits() []string {
	return []string{"", "-1", "-0", "00", "01", "001", "+1", " 1", "1 ", "a", "1a", "0x1", "1_0", "1.0", "18446744073709551616", "18446744073709551617", "99999999999999999999", "000000000000000000001", "100000000000000000000"}
}

// TestMS1Digits: a number at each place that is told otherwise, or with more digits than needed, or above MaxIndex.
func TestMS1Digits(t *testing.T) {
	for _, m := range []msg.Msg{plain(), {Kind: 1, From: 1, To: 2, Term: 1}} {
		for _, f := range fields() {
			own := strings.Trim(parts(m)[f.at], "n;")
			for _, s := range append(badDigits(), "0"+own, "+"+own, own+" ", own+".") {
				unread(t, f.name+" "+s, with(m, f.at, "n"+s+";"))
			}
			for _, s := range []string{"1099511627777", "1099511627778", "2199023255552", "2199023255553", "9223372036854775807", "9223372036854775808", "9223372036854775809", "18446744073709551615"} {
				unread(t, f.name+" "+s, with(m, f.at, "n"+s+";"))
			}
			for _, s := range []string{"i" + own + ";", "t1:" + own, "b1:" + own, "y", "z", "", own + ";", "n" + own, "n" + own + ":", "N" + own + ";", "nn" + own + ";", "n" + own + ";;", "n;" + own + ";"} {
				unread(t, f.name+" as "+s, with(m, f.at, s))
			}
			unread(t, f.name+" twice", with(m, f.at, "n"+own+";n"+own+";"))
		}
	}
}

// TestMS1Truth: a truth that is none.
func TestMS1Truth(t *testing.T) {
	m := plain()
	reads(t, "true", with(m, partOK, "y"), m)
	m.OK = false
	reads(t, "false", with(m, partOK, "z"), m)
	for b := range 256 {
		if b != 'y' && b != 'z' {
			unread(t, "with such a truth", with(m, partOK, string([]byte{byte(b)})))
		}
	}
	for _, s := range []string{"", "yy", "zz", "yz", "zy", "n0;", "n1;", "i1;", "y;", "b1:y", "t1:y"} {
		unread(t, "with such a truth", with(m, partOK, s))
	}
}

// TestMS1DataBytes: data of another form.
func TestMS1DataBytes(t *testing.T) {
	m := plain()
	for _, s := range badDigits() {
		unread(t, "with such a length", with(m, partData, "b"+s+":ab"))
	}
	for _, s := range []string{"", "b", "b2", "b2;ab", "b02:ab", "b1:ab", "b3:ab", "b0:ab", "t2:ab", "n2;ab", "y", "ab", "b4096:ab", "b4097:ab", "b18446744073709551615:ab", "b9223372036854775807:ab"} {
		unread(t, "with data as "+s, with(m, partData, s))
	}
	for _, n := range []int{mostData + 1, mostData + 2, mostEntry, mostEntry + 1, api.MaxBytes / 2} {
		unread(t, "with too much data", with(m, partData, bytesThing(string(data(n)))))
	}
}

// TestMS1CountBytes: a count that is another one than that of the entries, or is told otherwise.
func TestMS1CountBytes(t *testing.T) {
	for _, there := range []int{0, 1, 2, 3, mostEntries - 1, mostEntries} {
		m := changed(func(m *msg.Msg) { m.Entries = row(6, there) })
		for n := range mostEntries + 3 {
			if n != there {
				unread(t, "with another count", with(m, partCount, "n"+strconv.Itoa(n)+";"))
			}
		}
		for _, s := range append(badDigits(), "0"+strconv.Itoa(there), "256", "257", "4294967296", "4294967297", "1099511627776", "1099511627777", "9223372036854775808", "18446744073709551615") {
			unread(t, "with such a count", with(m, partCount, "n"+s+";"))
		}
		for _, s := range []string{"", "i" + strconv.Itoa(there) + ";", "n" + strconv.Itoa(there) + ":", "n" + strconv.Itoa(there), "b0:", "y"} {
			unread(t, "with a count of another form", with(m, partCount, s))
		}
	}
	m := changed(func(m *msg.Msg) { m.Entries = row(6, mostEntries+1) })
	for _, n := range []int{0, mostEntries - 1, mostEntries, mostEntries + 1, mostEntries + 2} {
		unread(t, "with an entry too many", with(m, partCount, "n"+strconv.Itoa(n)+";"))
	}
}

// TestMS1Parts: a part left out, there twice, or in another's place.
func TestMS1Parts(t *testing.T) {
	m := changed(func(m *msg.Msg) { m.Entries = row(6, 2) })
	l := parts(m)
	for i := range l {
		unread(t, "with a part left out", strings.Join(slices.Delete(slices.Clone(l), i, i+1), ""))
		unread(t, "with a part twice", strings.Join(slices.Insert(slices.Clone(l), i, l[i]), ""))
	}
	for _, at := range [][2]int{{7, 8}, {8, 9}, {9, 10}, {10, 11}, {11, 12}} {
		other := slices.Clone(l)
		other[at[0]], other[at[1]] = other[at[1]], other[at[0]]
		unread(t, "with two parts in another order", strings.Join(other, ""))
	}
}

// TestMS1Changed: whatever is read of bytes of which one is another has these bytes, and may be.
func TestMS1Changed(t *testing.T) {
	for name, m := range some() {
		s := text(m)
		taken := 0
		for i := range min(len(s), 200) {
			for b := range 256 {
				in := s[:i] + string([]byte{byte(b)}) + s[i+1:]
				got, err := msg.Decode([]byte(in))
				if err != nil {
					if in == s || err != api.ErrForm || told(got) != told(msg.Msg{}) {
						t.Errorf("Decode, %s, of %q: %s, %v", name, short(in), short(told(got)), err)
					}
					continue
				}
				taken++
				if again := string(msg.Encode(got)); again != in || msg.Check(got) != nil {
					t.Errorf("Decode, %s, of %q: %s, with the bytes %q", name, short(in), short(told(got)), short(again))
				}
			}
		}
		if taken < min(len(s), 200) {
			t.Errorf("%s: %d taken, where each byte but itself alone gives more", name, taken)
		}
	}
}

// TestMS1ChangedCount: how many of the bytes that differ in one byte are a message's.
func TestMS1ChangedCount(t *testing.T) {
	m := msg.Msg{Kind: msg.Voted, From: 12, To: 34, Term: 5, Index: 60, LogTerm: 7, OK: true, Off: 9, Data: []byte("ab")}
	s := text(m)
	taken := 0
	for i := range len(s) {
		for b := range 256 {
			if _, err := msg.Decode([]byte(s[:i] + string([]byte{byte(b)}) + s[i+1:])); err == nil {
				taken++
			}
		}
	}
	// Kind 1 to 6. From 12 to 62 and 10 to 19. To 14 to 64 (a tens digit of 1 to 6) and 30 to 39. Term 1 to 9. Index 10 to 90 and 60 to 69.
	// LogTerm, Commit, Round and Off 0 to 9 each. OK either. Both bytes of the data any. Each of the others as it is alone.
	want := 6 + 6 + 10 + 6 + 10 + 9 + 9 + 10 + 4*10 + 2 + 2*256
	others := len(s) - (1 + 2 + 2 + 1 + 2 + 4 + 1 + 2)
	if taken != want+others {
		t.Errorf("%d taken, not %d, of %q", taken, want+others, s)
	}
}

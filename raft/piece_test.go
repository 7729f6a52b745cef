package raft_test

import (
	"fmt"
	"testing"

	"tollbar/api"
	"tollbar/conf"
	"tollbar/entry"
	"tollbar/msg"
	"tollbar/raft"
)

// piece is a Piece of 3 to 1, of the term 6 and the round 5.
func piece(index, logTerm, off int, data []byte, last bool) msg.Msg {
	return msg.Msg{Kind: msg.Piece, From: 3, To: 1, Term: 6, Index: index, LogTerm: logTerm, Off: off, Data: data, OK: last, Round: 5}
}

// got is the answer to such a one.
func got(ok bool, index, off int) msg.Msg {
	return msg.Msg{Kind: msg.Pieced, From: 1, To: 3, Term: 6, OK: ok, Index: index, Off: off, Round: 5}
}

// TestRA3PieceCommitted: an Index that is committed already is fine, whatever comes.
func TestRA3PieceCommitted(t *testing.T) {
	l := logOf(5, 3, 3, 4, 4, 4)
	for _, index := range []int{0, 1, 5, 6, 7, 8} {
		for _, last := range []bool{false, true} {
			c := follower(t, 6, l, 8)
			silent(t, "it", c, 2)
			tells(t, "it", c.Step(piece(index, 3, 0, handedText(all(2), nil), last), 3), got(true, index, 0))
			is(t, "it", c, raft.View{Leader: 3, Commit: 8})
			keeps(t, "it", c, raft.Stored{Term: 6, Log: l, Conf: all(3)})
			waits(t, "it", c, 7, 0)
		}
	}
}

// TestRA3PieceByPiece: pieces one behind the other, till the text is whole.
func TestRA3PieceByPiece(t *testing.T) {
	text := handedText(conf.Conf{1, 5}, snapOf(3000))
	c := follower(t, 6, logOf(5, 3, 3, 4, 4, 4), 8)
	before := raft.Stored{Term: 6, Log: logOf(5, 3, 3, 4, 4, 4), Conf: all(3)}
	off := 0
	for _, n := range []int{1000, 1, 0, 1024, 900} {
		silent(t, "it", c, 2)
		tells(t, "a piece", c.Step(piece(20, 6, off, text[off:off+n], false), 3), got(false, 20, off+n))
		is(t, "behind a piece", c, raft.View{Leader: 3, Commit: 8})
		keeps(t, "behind a piece", c, before)
		off += n
	}
	tells(t, "the last piece", c.Step(piece(20, 6, off, text[off:], true), 3), got(true, 20, 0))
	is(t, "it", c, raft.View{Leader: 3, Commit: 20})
	keeps(t, "it", c, raft.Stored{Term: 6, Log: entry.Log{Base: 20, Term: 6}, Conf: conf.Conf{1, 5}, Snap: snapOf(3000)})
	members(t, "it", c, 1, 5)
	waits(t, "it", c, 7, 0)
	c = begin(t, 1, 4, c.Stored(), 0)
	is(t, "with what it kept", c, raft.View{Commit: 20})
}

// TestRA3PieceOff: at another place, under another Index between, and anew from 0.
func TestRA3PieceOff(t *testing.T) {
	text := handedText(all(2), []byte("abcdefgh"))
	c := follower(t, 6, logOf(5, 3, 3), 0)
	tells(t, "ahead of a first piece", c.Step(piece(20, 6, 4, text[4:], true), 0), got(false, 20, 0))
	tells(t, "the first", c.Step(piece(20, 6, 0, text[:4], false), 0), got(false, 20, 4))
	tells(t, "the first again", c.Step(piece(20, 6, 0, text[:6], false), 0), got(false, 20, 6))
	tells(t, "too far", c.Step(piece(20, 6, 7, text[7:], true), 0), got(false, 20, 6))
	tells(t, "not far enough", c.Step(piece(20, 6, 5, text[5:], true), 0), got(false, 20, 6))
	tells(t, "too far for another one", c.Step(piece(21, 6, 6, text[6:], true), 0), got(false, 21, 0))
	tells(t, "the second", c.Step(piece(20, 6, 6, text[6:9], false), 0), got(false, 20, 9))
	tells(t, "the begin of another one", c.Step(piece(21, 6, 0, text[:3], false), 0), got(false, 21, 3))
	tells(t, "the third, too late", c.Step(piece(20, 6, 9, text[9:], true), 0), got(false, 20, 0))
	tells(t, "the rest of the other one", c.Step(piece(21, 6, 3, text[3:], true), 0), got(true, 21, 0))
	keeps(t, "it", c, raft.Stored{Term: 6, Log: entry.Log{Base: 21, Term: 6}, Conf: all(2), Snap: []byte("abcdefgh")})
	tells(t, "the first one's rest", c.Step(piece(20, 6, 0, text, true), 0), got(true, 20, 0))
	tells(t, "a later one's rest", c.Step(piece(22, 6, 3, text[3:], true), 0), got(false, 22, 0))
	is(t, "it", c, raft.View{Leader: 3, Commit: 21})
}

// TestRA3PieceOfOthers: what has come stays for whoever sends the rest, in a later term too.
func TestRA3PieceOfOthers(t *testing.T) {
	text := handedText(all(2), []byte("abcdefgh"))
	c := follower(t, 6, logOf(5, 3, 3), 0)
	c.Step(piece(20, 6, 0, text[:4], false), 0)
	c.Step(appends(2, 1, 7, 6, 3, 6, 0), 0)
	waits(t, "it", c, 4, 0)
	m := piece(20, 6, 4, text[4:], true)
	m.From, m.Term = 2, 9
	want := got(true, 20, 0)
	want.To, want.Term = 2, 9
	tells(t, "the rest", c.Step(m, 0), want)
	is(t, "it", c, raft.View{Leader: 2, Commit: 20})
	keeps(t, "it", c, raft.Stored{Term: 9, Log: entry.Log{Base: 20, Term: 6}, Conf: all(2), Snap: []byte("abcdefgh")})
}

// TestRA3PieceNoTerm: whole, but of the log's term 0: nothing; the text is gone.
func TestRA3PieceNoTerm(t *testing.T) {
	text := handedText(all(2), []byte("abc"))
	c := follower(t, 6, logOf(5, 3, 3), 0)
	tells(t, "the first", c.Step(piece(20, 0, 0, text[:4], false), 0), got(false, 20, 4))
	silent(t, "it", c, 2)
	tells(t, "the rest", c.Step(piece(20, 0, 4, text[4:], true), 3))
	is(t, "it", c, raft.View{Leader: 3, Commit: 5})
	keeps(t, "it", c, raft.Stored{Term: 6, Log: logOf(5, 3, 3), Conf: all(3)})
	tells(t, "the rest again", c.Step(piece(20, 6, 4, text[4:], true), 3), got(false, 20, 0))
	tells(t, "no handed text", c.Step(piece(20, 0, 0, []byte("x"), true), 3))
	tells(t, "of a committed Index", c.Step(piece(5, 0, 0, text, true), 3), got(true, 5, 0))
	waits(t, "it", c, 7, 0)
}

// TestRA3PieceNoText: whole, but not a handed text.
func TestRA3PieceNoText(t *testing.T) {
	good := string(handedText(all(2), []byte("abc")))
	for _, text := range []string{
		"", "x", "b9:n2;n1;n2;", "b3:abc", good + "x", good + "b0:", good[1:], good[:len(good)-1], "b0:b3:abc", "b3:n0;b3:abc", "b9:n2;n2;n1;b3:abc",
		"b9:n2;n1;n2;t3:abc", "b9:n2;n1;n2;b03:abc", "b9:n2;n1;n2;b4:abc", "b9:n2;n1;n2;b2:abc", "b6:n1;n65;b0:", "b7:n1;n65;b0:", "b9:n2;n1;n2;b1048577:abc", "n2;n1;n2;b3:abc",
	} {
		c := follower(t, 6, logOf(5, 3, 3), 0)
		tells(t, fmt.Sprintf("%q", text), c.Step(piece(20, 6, 0, []byte(text), true), 3), got(false, 20, 0))
		is(t, fmt.Sprintf("%q", text), c, raft.View{Leader: 3, Commit: 5})
		keeps(t, fmt.Sprintf("%q", text), c, raft.Stored{Term: 6, Log: logOf(5, 3, 3), Conf: all(3)})
		tells(t, "the rest, behind nothing", c.Step(piece(20, 6, 2, []byte(good[2:]), true), 3), got(false, 20, 0))
		tells(t, "a good one", c.Step(piece(20, 6, 0, []byte(good), true), 3), got(true, 20, 0))
	}
}

// TestRA3PieceLog: what stays of the log: what is behind an entry of that index and term; nothing, if there is none.
func TestRA3PieceLog(t *testing.T) {
	l := with(logOf(5, 3, 3, 4), memberOf(8, 4, 1, 2, 3, 4), orderOf(9, 6), memberOf(10, 6, 1, 2, 3))
	text := handedText(conf.Conf{1, 5}, []byte("abc"))
	for _, x := range []struct {
		index, term int
		want        entry.Log
		members     conf.Conf
	}{
		{7, 4, entry.Log{Base: 7, Term: 4, L: l.L[2:]}, all(3)},
		{8, 4, entry.Log{Base: 8, Term: 4, L: l.L[3:]}, all(3)},
		{9, 6, entry.Log{Base: 9, Term: 6, L: l.L[4:]}, all(3)},
		{10, 6, entry.Log{Base: 10, Term: 6}, conf.Conf{1, 5}},
		{7, 3, entry.Log{Base: 7, Term: 3}, conf.Conf{1, 5}},
		{7, 6, entry.Log{Base: 7, Term: 6}, conf.Conf{1, 5}},
		{10, 4, entry.Log{Base: 10, Term: 4}, conf.Conf{1, 5}},
		{11, 6, entry.Log{Base: 11, Term: 6}, conf.Conf{1, 5}},
		{api.MaxIndex, 1, entry.Log{Base: api.MaxIndex, Term: 1}, conf.Conf{1, 5}},
	} {
		c := begin(t, 1, 4, raft.Stored{Term: 6, Vote: 2, Log: l, Conf: all(2)}, 0)
		c.Step(appends(2, 1, 6, 10, 6, 6, 0), 0)
		what := fmt.Sprintf("up to %d/%d", x.index, x.term)
		tells(t, what, c.Step(piece(x.index, x.term, 0, text, true), 0), got(true, x.index, 0))
		is(t, what, c, raft.View{Leader: 3, Commit: x.index})
		keeps(t, what, c, raft.Stored{Term: 6, Vote: 2, Log: x.want, Conf: conf.Conf{1, 5}, Snap: []byte("abc")})
		members(t, what, c, x.members...)
	}
}

// TestRA3PieceMost: a handed text of as many bytes as may be, by pieces as a leader sends them; and one of more, which is never whole.
func TestRA3PieceMost(t *testing.T) {
	snap := snapOf(api.MaxBytes - 1024)
	lead, _ := leading(t, 2, 4, raft.Stored{Term: 5, Log: logOf(5, 3), Conf: all(3), Snap: snap})
	c := begin(t, 1, 4, raft.Stored{Conf: all(3)}, 0)
	l := added(lead, 2, 1, false, 0)
	n := 0
	for len(l) == 1 && l[0].Kind == msg.Piece && n < 2000 {
		n++
		if l = c.Step(l[0], 0); len(l) != 1 {
			t.Fatalf("a piece is answered by%s", shownMsgs(l))
		}
		l = lead.Step(l[0], 0)
	}
	if n != 1024 {
		t.Errorf("%d pieces", n)
	}
	tells(t, "behind the last one", l, appends(2, 1, 6, 5, 3, 5, 0, emptyOf(6, 6)))
	keeps(t, "it", c, raft.Stored{Term: 6, Log: entry.Log{Base: 5, Term: 3}, Conf: all(3), Snap: snap})

	c = follower(t, 6, logOf(5, 3), 0)
	data := make([]byte, 4096)
	for off := 0; off < api.MaxBytes; off += len(data) {
		tells(t, "a piece", c.Step(piece(20, 6, off, data, false), 0), got(false, 20, off+len(data)))
	}
	tells(t, "one too many", c.Step(piece(20, 6, api.MaxBytes, data, true), 0), got(false, 20, api.MaxBytes))
}

// pieced lets a leader hear a Pieced of its term.
func pieced(c *raft.Core, from int, ok bool, index, off, round int) []msg.Msg {
	return c.Step(msg.Msg{Kind: msg.Pieced, From: from, To: 1, Term: c.Stored().Term, OK: ok, Index: index, Off: off, Round: round}, 0)
}

// handing is a leader with a log behind 5, of which 2 has nothing yet, its log and its handed text.
func handing(t *testing.T) (*raft.Core, entry.Log, []byte) {
	t.Helper()
	s := raft.Stored{Term: 5, Log: logOf(5, 3, 4), Conf: all(3), Snap: snapOf(3000)}
	c, _ := leading(t, 1, 4, s)
	l, text := with(s.Log, emptyOf(7, 6)), handedText(s.Conf, s.Snap)
	tells(t, "at first", added(c, 1, 2, false, 0), pieceOf(1, 2, 6, l, text, 0, 0))
	return c, l, text
}

// TestRA3PiecedOff: from where what has come ends, if that is in the text; from 0 else.
func TestRA3PiecedOff(t *testing.T) {
	c, l, text := handing(t)
	for _, off := range []int{1024, 1, 2048, 7, len(text) - 1, 0, 1024} {
		tells(t, fmt.Sprintf("off %d", off), pieced(c, 2, false, 5, off, 0), pieceOf(1, 2, 6, l, text, off, 0))
		tells(t, fmt.Sprintf("off %d", off), c.Tick(0)[:1], pieceOf(1, 2, 6, l, text, off, 0))
	}
	for _, off := range []int{len(text), len(text) + 1, api.MaxIndex} {
		pieced(c, 2, false, 5, 9, 0)
		tells(t, fmt.Sprintf("off %d", off), pieced(c, 2, false, 5, off, 0), pieceOf(1, 2, 6, l, text, 0, 0))
	}
	pieced(c, 2, false, 5, 1024, 0)
	tells(t, "not added", added(c, 1, 2, false, 0), pieceOf(1, 2, 6, l, text, 0, 0))
}

// TestRA3PiecedOther: of an Index that is not the Base, and of one that is sent entries: nothing.
func TestRA3PiecedOther(t *testing.T) {
	c, l, text := handing(t)
	pieced(c, 2, false, 5, 1024, 0)
	for _, index := range []int{0, 4, 6, 7, api.MaxIndex} {
		tells(t, "another Index", pieced(c, 2, false, index, 9, 0))
		tells(t, "another Index", c.Tick(0)[:1], pieceOf(1, 2, 6, l, text, 1024, 0))
	}
	tells(t, "one that is sent entries", pieced(c, 3, false, 5, 9, 0))
	tells(t, "one that was not known", pieced(c, 9, false, 5, 9, 0))
	tells(t, "one that is sent entries, not added", added(c, 1, 3, false, 0), pieceOf(1, 3, 6, l, text, 0, 0))
	is(t, "it", c, raft.View{Role: raft.Leader, Leader: 1, Commit: 5})
}

// TestRA3PiecedOK: as an Added that is OK, of whatever Index.
func TestRA3PiecedOK(t *testing.T) {
	c, l, text := handing(t)
	tells(t, "the Base", pieced(c, 2, true, 5, 0, 0), appends(1, 2, 6, 5, 3, 5, 0, l.L...))
	tells(t, "the Base again", pieced(c, 2, true, 5, 0, 0))
	tells(t, "less", pieced(c, 2, true, 3, 0, 0))
	tells(t, "not added", added(c, 1, 2, false, 0), appends(1, 2, 6, 5, 3, 5, 0, l.L...))
	tells(t, "all", pieced(c, 2, true, 7, 0, 0), appends(1, 2, 6, 7, 6, 7, 0), appends(1, 3, 6, 6, 4, 7, 0, l.L[1]))
	is(t, "all", c, raft.View{Role: raft.Leader, Leader: 1, Commit: 7})

	c, l, _ = handing(t)
	tells(t, "less than the Base", pieced(c, 2, true, 2, 0, 0), pieceOf(1, 2, 6, l, text, 0, 0))
	tells(t, "more than there is", pieced(c, 2, true, 90, 0, 0), appends(1, 2, 6, 7, 6, 7, 0), appends(1, 3, 6, 6, 4, 7, 0, l.L[1]))
	tells(t, "one that was not known", pieced(c, 9, true, 5, 0, 0))
	c.Propose(entry.Order, nil)
	tells(t, "one that was not known", pieced(c, 8, true, 6, 0, 0))
	tells(t, "one that was not known, and has more", pieced(c, 9, true, 6, 0, 0), appends(1, 9, 6, 7, 6, 7, 0, entry.Entry{Index: 8, Term: 6, Kind: entry.Order}))
}

// TestRA3PiecedRound: its round counts, OK or not, of whatever Index.
func TestRA3PiecedRound(t *testing.T) {
	for _, ok := range []bool{false, true} {
		c, _, _ := handing(t)
		added(c, 1, 3, true, 7)
		for range 4 {
			c.Read()
		}
		pieced(c, 2, ok, 2, 0, 2)
		heard(t, "2", c, 1, 2)
		pieced(c, 2, ok, 5, 0, 3)
		heard(t, "3", c, 1, 2, 3)
		pieced(c, 2, ok, 5, 0, 1)
		heard(t, "1 late", c, 1, 2, 3)
		pieced(c, 9, ok, 5, 0, 4)
		heard(t, "4 of somebody else", c, 1, 2, 3)
	}
}

// TestRA3PieceRound: the pieces of a round tell it.
func TestRA3PieceRound(t *testing.T) {
	c, l, text := handing(t)
	added(c, 1, 3, true, 7)
	round, index, told, err := c.Read()
	if round != 1 || index != 7 || err != nil {
		t.Errorf("Read: %d, %d, %v", round, index, err)
	}
	tells(t, "Read", told, pieceOf(1, 2, 6, l, text, 0, 1), appends(1, 3, 6, 7, 6, 7, 1))
}

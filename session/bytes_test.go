package session_test

import (
	"fmt"
	"math"
	"slices"
	"strconv"
	"strings"
	"testing"

	"tollbar/api"
	"tollbar/order"
	"tollbar/quota"
	"tollbar/session"
)

// bytes are bytes as bytes, whatever package pack says of them.
func bytes(s string) string { return "b" + strconv.Itoa(len(s)) + ":" + s }

// text is a text as bytes, whatever package pack says of it.
func text(s string) string { return "t" + strconv.Itoa(len(s)) + ":" + s }

// zero are the bytes of a reply to what was not asked for.
const zero = "i0;i0;b15:i0;n0;n0;n0;n0;"

// onSession are a session's bytes, of its numbers as digits.
func onSession(number, seq, reply string) string {
	return "n" + number + ";n" + seq + ";" + bytes(reply)
}

// onTable are a table's bytes.
func onTable(tree string, sessions ...string) string {
	return bytes(tree) + "n" + strconv.Itoa(len(sessions)) + ";" + strings.Join(sessions, "")
}

// decodes looks at bytes that must be a table's, which is made into the same ones again.
func decodes(t *testing.T, in string) *session.Table {
	t.Helper()
	table, err := session.Decode([]byte(in))
	if err != nil {
		t.Fatalf("Decode of %.300s: %v", in, err)
	}
	if got := string(table.Encode()); got != in {
		t.Errorf("Decode of %.300s: %.300s", in, got)
	}
	return table
}

// spoils looks at bytes that must be no table's.
func spoils(t *testing.T, what, in string) {
	t.Helper()
	table, err := session.Decode([]byte(in))
	if errno(err) != api.ErrForm || table != nil {
		t.Errorf("Decode, %s: %v, %v, of %.300s", what, table, err, in)
	}
}

// TestSE3Encode: what stands in the bytes, the sessions ascending.
func TestSE3Encode(t *testing.T) {
	table := session.New()
	is := func(want string) {
		t.Helper()
		if got := string(table.Encode()); got != want {
			t.Errorf("Encode: %s, not %s", got, want)
		}
		decodes(t, want)
	}
	is("b6:n0;n0;n0;")
	table.Apply(10, opens())
	is("b6:n0;n0;n1;n10;n0;b25:i0;i0;b15:i0;n0;n0;n0;n0;")
	table.Apply(9, opens())
	is("b6:n0;n0;n2;n9;n0;b25:i0;i0;b15:i0;n0;n0;n0;n0;n10;n0;b25:i0;i0;b15:i0;n0;n0;n0;n0;")
	table.Apply(11, asks(10, 1, add(node("r", "", 2+3i, 4, 5i))))
	is("b31:n1;t1:rt0:n2;n3;n4;n0;n0;n5;n0;n2;n9;n0;b25:i0;i0;b15:i0;n0;n0;n0;n0;n10;n1;b26:i0;i10;b15:i0;n0;n0;n2;n3;")
	table.Apply(12, asks(9, 1, admit("x", "r", 9)))
	table.Apply(13, asks(10, 2, admit("x", "r", 1+2i)))
	tree := "n1;t1:rt0:n2;n3;n4;n0;n0;n5;n1;t1:xt1:rn1;n2;"
	is(onTable(tree, onSession("9", "1", "i0;i9;b16:i20;n0;n0;n0;n0;"), onSession("10", "2", "i0;i10;b15:i0;n1;n2;n2;n3;")))
	table.Apply(14, closes(9))
	is(onTable(tree, onSession("10", "2", "i0;i10;b15:i0;n1;n2;n2;n3;")))
	table.Apply(15, closes(10))
	is(onTable(tree))
}

// TestSE3Numbers: numbers about their bounds, of a session, and of what it asked for last.
func TestSE3Numbers(t *testing.T) {
	whole := strconv.Itoa(api.MaxIndex)
	for _, n := range []string{"1", "2", "10", "4294967297", "1099511627775", whole} {
		has(t, decodes(t, onTable("n0;n0;", onSession(n, "0", zero))), atoi(t, n))
		last(t, decodes(t, onTable("n0;n0;", onSession("5", n, zero))), 5, atoi(t, n), session.Reply{})
	}
	for _, n := range []string{"1099511627777", "1099511627778", "2199023255553", "9223372036854775807", "9223372036854775808", "18446744073709551615", "18446744073709551616", "18446744073709551617", "", "00", "01", "-1", "-0", "+1", "1.0", " 1", "a", ":"} {
		spoils(t, "with a session's number that is none", onTable("n0;n0;", onSession(n, "0", zero)))
		spoils(t, "with a last number that is none", onTable("n0;n0;", onSession("5", n, zero)))
	}
	spoils(t, "with the session 0", onTable("n0;n0;", onSession("0", "0", zero)))
	spoils(t, "with the session 0 ahead", onTable("n0;n0;", onSession("0", "0", zero), onSession("1", "0", zero)))
}

// atoi is the number of digits.
func atoi(t *testing.T, s string) int {
	t.Helper()
	n, err := strconv.Atoi(s)
	if err != nil {
		t.Fatal(err)
	}
	return n
}

// TestSE3Ascending: sessions one behind the other, each once.
func TestSE3Ascending(t *testing.T) {
	numbered := func(numbers ...int) string {
		var l []string
		for _, n := range numbers {
			l = append(l, onSession(strconv.Itoa(n), "0", zero))
		}
		return onTable("n0;n0;", l...)
	}
	for _, l := range [][]int{{}, {1}, {1, 2}, {1, 3, 9}, {9, 10}, {2, 10, 100}, {api.MaxIndex - 1, api.MaxIndex}} {
		has(t, decodes(t, numbered(l...)), l...)
	}
	for _, l := range [][]int{{1, 1}, {2, 1}, {10, 9}, {1, 3, 2}, {1, 3, 3}, {2, 3, 1}, {3, 3, 4}, {3, 1, 2}, {100, 20}, {api.MaxIndex, api.MaxIndex}, {api.MaxIndex, 1}} {
		spoils(t, "with numbers that do not ascend", numbered(l...))
	}
}

// TestSE3Count: as many sessions as are told, and no more than MaxClients.
func TestSE3Count(t *testing.T) {
	numbered := func(n int) (l []string) {
		for i := range n {
			l = append(l, onSession(strconv.Itoa(3*i+1), strconv.Itoa(i), zero))
		}
		return l
	}
	for _, n := range []int{0, 1, 2, api.MaxClients - 1, api.MaxClients} {
		table := decodes(t, onTable("n0;n0;", numbered(n)...))
		if got := len(table.Sessions()); got != n {
			t.Errorf("%d sessions, not %d", got, n)
		}
		// Of the number that is told one more or one less makes other bytes of it.
		for _, other := range []int{n - 1, n + 1} {
			spoils(t, "with another count", bytes("n0;n0;")+"n"+strconv.Itoa(other)+";"+strings.Join(numbered(n), ""))
		}
	}
	for _, n := range []int{api.MaxClients + 1, api.MaxClients + 2, 2 * api.MaxClients, 256 + 1} {
		spoils(t, "with too many sessions", onTable("n0;n0;", numbered(n)...))
	}
	for _, count := range []string{"n65;", "n1099511627776;", "n9223372036854775808;", "n18446744073709551615;", "n18446744073709551616;", "n;", "n00;", "n-0;", "n-1;", "i0;", "i1;", "n0", "n0:", "0;", ""} {
		spoils(t, "with a count that is none", bytes("n0;n0;")+count)
		spoils(t, "with a count that is none", bytes("n0;n0;")+count+numbered(1)[0])
	}
	full := crowd(t)
	decodes(t, string(full.Encode()))
	applies(t, full, 100, opens(), refused(api.ErrFull))
}

// TestSE3Tree: a tree as quota has it, and no other bytes.
func TestSE3Tree(t *testing.T) {
	trees := []string{"n0;n0;", "n1;t1:rt0:n2;n3;n4;n0;n0;n5;n0;", "n1;t1:rt0:n2;n3;n4;n0;n0;n5;n1;t1:xt1:rn1;n2;"}
	for _, tree := range trees {
		table := decodes(t, onTable(tree, onSession("1", "0", zero)))
		if got := string(table.Tree().Encode()); got != tree {
			t.Errorf("The tree is %s, not %s", got, tree)
		}
	}
	bad := []string{
		"", "n0;", "n0;n0", "n0;n0;n0;", "n1;n0;", "n1;t0:t0:n1;n1;n1;n1;n1;n1;n0;", "n1;t1:rt1:sn1;n1;n1;n1;n1;n1;n0;", "n1;t1:rt1:rn1;n1;n1;n1;n1;n1;n0;",
		"n1;t1:rt0:n2;n3;n4;n0;n0;n5;n1;t1:xt1:rn3;n2;", "n1;t1:rt0:n2;n3;n4;n0;n0;n5;n1;t1:xt1:sn1;n2;", "n257;n0;", " n0;n0;", "b6:n0;n0;",
		strings.Repeat("n", api.MaxBytes), strings.Repeat("n", api.MaxBytes+1), "n0;n0;" + strings.Repeat("0", api.MaxBytes),
	}
	for _, tree := range bad {
		spoils(t, "with a tree that is none", onTable(tree))
		spoils(t, "with a tree that is none", onTable(tree, onSession("1", "0", zero)))
	}
	spoils(t, "with a text for a tree", text("n0;n0;")+"n0;")
	spoils(t, "with a tree without its length", "n0;n0;n0;")
	spoils(t, "with no tree", "n0;")
	for _, head := range []string{"b06:", "b5:", "b7:", "b:", "b6", "b6;", "b-6:", "b18446744073709551615:", "b1048577:"} {
		spoils(t, "with a tree of another length", head+"n0;n0;n0;")
	}
}

// TestSE3Replies: replies as DecodeReply has them, whatever they tell, and no other bytes.
func TestSE3Replies(t *testing.T) {
	longest := session.Reply{Err: math.MinInt, Session: math.MinInt, Answer: order.Answer{Err: math.MinInt, Used: c(most, most), Total: c(most, most)}}
	replies := []session.Reply{longest, {}, {Err: 24}, {Session: 5}, {Session: -7}, {Err: -1, Session: 9}, told(5, c(most, 0), c(0, most)), denied(6, api.ErrScript)}
	for _, r := range replies {
		for _, seq := range []int{0, 1, 77} {
			table := decodes(t, onTable("n0;n0;", onSession("5", strconv.Itoa(seq), string(session.EncodeReply(r)))))
			last(t, table, 5, seq, r)
			if seq > 0 {
				applies(t, copied(t, table), 1, asks(5, seq, add(node("r", "", 1, 0, 0))), r)
			}
			applies(t, table, 1, asks(5, seq+1, add(node("r", "", 1, 0, 0))), told(5, 0, 1))
		}
	}
	bad := []string{
		"", "i0;", "i0;i0;", "i0;i0;b0:", "i0;i0;b14:i0;n0;n0;n0;n0", zero[:len(zero)-1], zero + "n0;", zero + " ", "n0;i0;b15:i0;n0;n0;n0;n0;", "i0;i0;t15:i0;n0;n0;n0;n0;",
		"i0;i0;i0;n0;n0;n0;n0;", "i0;i0;b12:i0;n0;n0;n0;", "i0;i0;b15:n0;n0;n0;n0;n0;", zero + strings.Repeat("n", 256-len(zero)), zero + strings.Repeat("n", 257-len(zero)),
		strings.Repeat("i", 256), strings.Repeat("i", 257), "i0;i0;" + bytes(strings.Repeat("n", 250)), zero + zero,
	}
	for _, reply := range bad {
		spoils(t, "with a reply that is none", onTable("n0;n0;", onSession("5", "1", reply)))
		spoils(t, "with a reply that is none", onTable("n0;n0;", onSession("5", "1", reply), onSession("6", "1", zero)))
		spoils(t, "with a reply that is none behind", onTable("n0;n0;", onSession("4", "1", zero), onSession("5", "1", reply)))
	}
	spoils(t, "with a text for a reply", "b6:n0;n0;n1;n5;n1;"+text(zero))
	spoils(t, "with a reply without its length", "b6:n0;n0;n1;n5;n1;"+zero)
}

// full is a table of MaxClients sessions on a tree of MaxNodes nodes and MaxUses uses, all of them as long as they may be.
func full(t *testing.T) *session.Table {
	t.Helper()
	q := quota.New()
	name := func(letter string, i int) string {
		s := fmt.Sprintf("%s%d", letter, i)
		return s + strings.Repeat("~", api.MaxLabel-len(s))
	}
	for i := range api.MaxNodes {
		if err := q.AddNode(node(name("n", i), parent(name, i), c(most/api.MaxNodes, 9), c(most, most), c(most, most))); err != nil {
			t.Fatalf("AddNode: %v", err)
		}
	}
	for i := range api.MaxUses {
		if err := q.Admit(quota.Use{ID: name("u", i), Node: name("n", i%api.MaxNodes), Amount: c(most/api.MaxUses, 2)}); err != nil {
			t.Fatalf("Admit: %v", err)
		}
	}
	var l []string
	reply := session.Reply{Session: api.MaxIndex, Answer: order.Answer{Err: 291, Used: c(most, most), Total: c(most, most)}}
	for i := range api.MaxClients {
		l = append(l, onSession(strconv.Itoa(api.MaxIndex-api.MaxClients+1+i), strconv.Itoa(api.MaxIndex), string(session.EncodeReply(reply))))
	}
	return decodes(t, onTable(string(q.Encode()), l...))
}

// parent is the name of the node above the i-th.
func parent(name func(string, int) string, i int) string {
	if i == 0 {
		return ""
	}
	return name("n", (i-1)/2)
}

// TestSE3Full: a table with as much in it as may be is laid and taken off.
func TestSE3Full(t *testing.T) {
	table := full(t)
	if got := len(table.Sessions()); got != api.MaxClients {
		t.Errorf("%d sessions", got)
	}
	tree := table.Tree()
	if len(tree.Nodes()) != api.MaxNodes || len(tree.Uses()) != api.MaxUses {
		t.Errorf("%d nodes, %d uses", len(tree.Nodes()), len(tree.Uses()))
	}
	applies(t, table, 1, opens(), refused(api.ErrFull))
	applies(t, table, 1, closes(api.MaxIndex), done(api.MaxIndex))
	applies(t, table, 1, opens(), done(1))
	applies(t, table, 1, asks(1, 1, admit("x", "?", 0)), denied(1, api.ErrNone))
	applies(t, table, 1, asks(1, 2, add(node("x", "", 0, 0, 0))), denied(1, api.ErrFull))
}

// TestSE3Cut: no begin of a table's bytes is one, nor are they with more behind or ahead.
func TestSE3Cut(t *testing.T) {
	for _, table := range []*session.Table{session.New(), busy(t), busier(t)} {
		s := string(table.Encode())
		decodes(t, s)
		for i := range len(s) {
			spoils(t, "cut short", s[:i])
			spoils(t, "without its begin", s[i+1:])
			if i > 0 {
				spoils(t, "with a begin ahead", s[:i]+s)
			}
		}
		for _, more := range []string{"\x00", " ", ";", "0", "n", "n0;", "n0;n0;", "b0:", onSession("77", "0", zero), s} {
			spoils(t, "with more behind", s+more)
			spoils(t, "with more ahead", more+s)
		}
	}
	spoils(t, "of nothing", "")
	if table, err := session.Decode(nil); table != nil || errno(err) != api.ErrForm {
		t.Errorf("Decode of nil: %v, %v", table, err)
	}
}

// busier is a table of which each session asked for something, with an error in one answer.
func busier(t *testing.T) *session.Table {
	t.Helper()
	table := busy(t)
	applies(t, table, 11, asks(5, 2, admit("x", "r", 3+2i)), told(5, 3+2i, 7+8i))
	applies(t, table, 12, asks(9, 1, admit("y", "r", 7+7i)), denied(9, api.ErrQuota))
	return table
}

// TestSE3Changed: each byte changed into any other one makes no bytes of a table, or those of another one.
func TestSE3Changed(t *testing.T) {
	s := busier(t).Encode()
	for i := range s {
		for other := range 256 {
			b := slices.Clone(s)
			b[i] = byte(other)
			table, err := session.Decode(b)
			if err != nil {
				spoils(t, "changed", string(b))
				continue
			}
			if got := string(table.Encode()); got != string(b) {
				t.Fatalf("Decode of %q: %q", b, got)
			}
		}
	}
}

// TestSE3GoesOn: a table made of another one's bytes goes on as that one does.
func TestSE3GoesOn(t *testing.T) {
	table := busier(t)
	other := decodes(t, string(table.Encode()))
	steps := []struct {
		index int
		do    session.Command
		want  session.Reply
	}{
		{20, asks(5, 1, query("r")), refused(api.ErrOld)},
		{20, asks(5, 2, query("r")), told(5, 3+2i, 7+8i)},
		{21, asks(5, 4, query("r")), refused(api.ErrGap)},
		{22, asks(9, 1, query("r")), denied(9, api.ErrQuota)},
		{23, asks(9, 2, admit("y", "r", 4+6i)), told(9, 7+8i, 7+8i)},
		{9, opens(), refused(api.ErrTwice)},
		{24, opens(), done(24)},
		{25, asks(24, 1, release("x")), done(24)},
		{26, closes(9), done(9)},
		{27, asks(9, 2, query("r")), refused(api.ErrGone)},
		{28, asks(24, 2, remove("r")), denied(24, api.ErrUsed)},
		{29, asks(5, 3, query("r")), told(5, 4+6i, 7+8i)},
		{30, closes(9), refused(api.ErrGone)},
	}
	for _, step := range steps {
		applies(t, table, step.index, step.do, step.want)
		applies(t, other, step.index, step.do, step.want)
		if all(table) != all(other) {
			t.Fatalf("They part behind %v: %s, %s", step.do, all(table), all(other))
		}
	}
}

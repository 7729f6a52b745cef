package quota_test

import (
	"fmt"
	"math/rand"
	"slices"
	"strconv"
	"strings"
	"testing"

	"tollbar/api"
	"tollbar/quota"
)

// text is a text as bytes, whatever package pack says of it.
func text(s string) string { return "t" + strconv.Itoa(len(s)) + ":" + s }

// count is a number as bytes.
func count(n int) string { return "n" + strconv.Itoa(n) + ";" }

// onNode are a node's bytes, of numbers of any size.
func onNode(name, parent string, numbers ...int) string {
	s := text(name) + text(parent)
	for _, n := range numbers {
		s += count(n)
	}
	return s
}

// onUse are a use's bytes.
func onUse(id, at string, first, second int) string {
	return text(id) + text(at) + count(first) + count(second)
}

// onTree are a tree's bytes.
func onTree(nodes []string, uses ...string) string {
	return count(len(nodes)) + strings.Join(nodes, "") + count(len(uses)) + strings.Join(uses, "")
}

// decodes looks at bytes that must be a tree's, which is made into the same ones again.
func decodes(t *testing.T, in string) *quota.Tree {
	t.Helper()
	q, err := quota.Decode([]byte(in))
	if err != nil {
		t.Fatalf("Decode of %s: %v", in, err)
	}
	if got := string(q.Encode()); got != in {
		t.Errorf("Decode of %s: %s", in, got)
	}
	return q
}

// spoils looks at bytes that must be none's.
func spoils(t *testing.T, what, in string) {
	t.Helper()
	q, err := quota.Decode([]byte(in))
	if number(err) != api.ErrForm || q != nil {
		t.Errorf("Decode, %s: %v, %v, of %.300s", what, q, err, in)
	}
}

// TestQU4Encode: what stands in the bytes, by rising name and ID.
func TestQU4Encode(t *testing.T) {
	q := tree(t, node("r", "", 2+3i, 0, 0), node("b", "r", 4+5i, 0, 1+1i), node("a", "r", most-6, 9+8i, 7i))
	want := onTree([]string{onNode("a", "r", most-6, 0, 9, 8, 0, 7), onNode("b", "r", 4, 5, 0, 0, 1, 1), onNode("r", "", 2, 3, 0, 0, 0, 0)})
	if got := string(q.Encode()); got != "n3;"+"t1:at1:rn1099511627770;n0;n9;n8;n0;n7;"+"t1:bt1:rn4;n5;n0;n0;n1;n1;"+"t1:rt0:n2;n3;n0;n0;n0;n0;"+"n0;" || got != want {
		t.Errorf("Encode: %s, not %s", got, want)
	}
	q = example(t)
	admit(t, q, use("y", "a", 1+2i), use("x", "b", 0))
	want = "n3;t1:at1:rn4;n4;n9;n9;n0;n0;t1:bt1:rn4;n4;n0;n0;n1;n1;t1:rt0:n2;n2;n0;n0;n0;n0;n2;t1:xt1:bn0;n0;t1:yt1:an1;n2;"
	if got := string(q.Encode()); got != want {
		t.Errorf("Encode: %s, not %s", got, want)
	}
	decodes(t, want)
	decodes(t, "n0;n0;")
}

// TestQU4Same: a tree that was made of bytes answers as the one that they are of, in all that comes behind.
func TestQU4Same(t *testing.T) {
	q := example(t)
	admit(t, q, use("y", "a", 1+2i), use("x", "b", 2))
	d := decodes(t, string(q.Encode()))
	for i, one := range []*quota.Tree{q, d} {
		totals(t, one, "r", 10+10i, 3+2i)
		totals(t, one, "a", 4+4i, 1+2i)
		room(t, one, "a", 6+5i)
		room(t, one, "b", 2+4i)
		refuses(t, one, "Admit", api.ErrQuota, func() error { return one.Admit(use("z", "a", 7)) })
		answers(t, "Admit", one.Admit(use("z", "a", 6+5i)), none)
		refuses(t, one, "Set", api.ErrUsed, func() error { return one.Set(node("b", "", 4+4i, 0, 0)) })
		answers(t, "Release", one.Release("y"), none)
		answers(t, "AddNode", one.AddNode(node("c", "b", 0, 0, 0)), none)
		refuses(t, one, "RemoveNode", api.ErrUsed, func() error { return one.RemoveNode("b") })
		answers(t, "RemoveNode", one.RemoveNode("c"), none)
		if string(one.Encode()) != string(q.Encode()) && i == 1 {
			t.Errorf("They part: %s, not %s", one.Encode(), q.Encode())
		}
	}
	if told(d) != told(q) {
		t.Errorf("They part: %s, not %s", told(d), told(q))
	}
}

// TestQU4Cut: no begin of a tree's bytes is one, nor are they with more behind or ahead.
func TestQU4Cut(t *testing.T) {
	q := example(t)
	admit(t, q, use("y", "a", 1+2i), use("x", "b", 2))
	s := string(q.Encode())
	for i := range len(s) {
		spoils(t, "cut short", s[:i])
		if i > 0 {
			spoils(t, "with a begin ahead", s[:i]+s)
		}
	}
	for _, more := range []string{"\x00", " ", "n", "n0;", "n0;n0;", s} {
		spoils(t, "with more behind", s+more)
		spoils(t, "with more ahead", more+s)
	}
	spoils(t, "of nothing", "")
	if q, err := quota.Decode(nil); q != nil || number(err) != api.ErrForm {
		t.Errorf("Decode of nil: %v, %v", q, err)
	}
}

// TestQU4Changed: each byte changed into any other one makes no bytes of a tree, or those of another one, which holds.
func TestQU4Changed(t *testing.T) {
	q := example(t)
	admit(t, q, use("y", "a", 1+2i), use("x", "b", 2))
	s := q.Encode()
	for i := range s {
		for other := range 256 {
			b := append([]byte(nil), s...)
			b[i] = byte(other)
			d, err := quota.Decode(b)
			if err != nil {
				if number(err) != api.ErrForm || d != nil {
					t.Fatalf("Decode of %q: %v, %v", b, d, err)
				}
				continue
			}
			if got := string(d.Encode()); got != string(b) {
				t.Fatalf("Decode of %q: %q", b, got)
			}
			if m := modelOf(d); !m.holds() {
				t.Fatalf("Decode of %q, which does not hold", b)
			}
		}
	}
}

// TestQU4Rising: names, and IDs, that do not rise.
func TestQU4Rising(t *testing.T) {
	root := func(name string) string { return onNode(name, "", 9, 9, 0, 0, 0, 0) }
	decodes(t, onTree([]string{root("a"), root("b"), root("c")}))
	spoils(t, "names that fall", onTree([]string{root("b"), root("a")}))
	spoils(t, "names that are the same", onTree([]string{root("a"), root("a")}))
	spoils(t, "names that fall at the end", onTree([]string{root("a"), root("c"), root("b")}))
	spoils(t, "names that are the same at the end", onTree([]string{root("a"), root("c"), root("c")}))
	spoils(t, "names that fall by a byte", onTree([]string{root("a!"), root("a")}))
	u := func(id string) string { return onUse(id, "a", 1, 1) }
	decodes(t, onTree([]string{root("a")}, u("x"), u("xx"), u("y")))
	spoils(t, "IDs that fall", onTree([]string{root("a")}, u("y"), u("x")))
	spoils(t, "IDs that are the same", onTree([]string{root("a")}, u("x"), u("x")))
	spoils(t, "IDs that fall at the end", onTree([]string{root("a")}, u("x"), u("z"), u("y")))
	spoils(t, "IDs that are the same at the end", onTree([]string{root("a")}, u("x"), u("y"), u("y")))
}

// TestQU4Parents: parents that come later by name, that are not there, and that go round.
func TestQU4Parents(t *testing.T) {
	n := func(name, parent string) string { return onNode(name, parent, 1, 2, 3, 4, 0, 0) }
	q := decodes(t, onTree([]string{n("a", "b"), n("b", "c"), n("c", "d"), n("d", "")}, onUse("x", "a", 4, 6)))
	totals(t, q, "d", 4+8i, 4+6i)
	totals(t, q, "a", 1+2i, 4+6i)
	decodes(t, onTree([]string{n("a", "d"), n("b", "a"), n("c", ""), n("d", "c")}))
	spoils(t, "a parent that is not there", onTree([]string{n("a", "b")}))
	spoils(t, "a parent that is not there", onTree([]string{n("a", ""), n("b", "c")}))
	spoils(t, "below a parent that is not there", onTree([]string{n("a", "x"), n("b", "a"), n("c", "")}))
	spoils(t, "a parent that is a use", onTree([]string{n("a", ""), n("b", "x")}, onUse("x", "a", 0, 0)))
	spoils(t, "a parent that is no name", onTree([]string{n("a", " ")}))
	spoils(t, "a node that is its own parent", onTree([]string{n("a", "a")}))
	spoils(t, "a node that is its own parent", onTree([]string{n("a", ""), n("b", "b")}))
	spoils(t, "a round of two", onTree([]string{n("a", "b"), n("b", "a")}))
	spoils(t, "a round of three beside a root", onTree([]string{n("a", "c"), n("b", "a"), n("c", "b"), n("d", "")}))
	spoils(t, "a node below a round", onTree([]string{n("a", "b"), n("b", "a"), n("c", "b"), n("d", "")}))
	spoils(t, "a use at no node", onTree([]string{n("a", "")}, onUse("x", "b", 0, 0)))
	spoils(t, "a use at no name", onTree([]string{n("a", "")}, onUse("x", "", 0, 0)))
	spoils(t, "a use without any node", onTree(nil, onUse("x", "a", 0, 0)))
}

// TestQU4Names: names and IDs that are none, or as long as may be.
func TestQU4Names(t *testing.T) {
	for _, name := range goodNames() {
		decodes(t, onTree([]string{onNode(name, "", 1, 1, 1, 1, 1, 1)}, onUse(name, name, 1, 1)))
		nodes := []string{onNode(name, "", 1, 1, 1, 1, 1, 1), onNode("m", name, 1, 1, 1, 1, 1, 1)}
		if name > "m" {
			slices.Reverse(nodes)
		}
		decodes(t, onTree(nodes))
	}
	for _, name := range badNames() {
		spoils(t, "a name that is none", onTree([]string{onNode(name, "", 1, 1, 1, 1, 1, 1)}))
		spoils(t, "an ID that is none", onTree([]string{onNode("a", "", 1, 1, 1, 1, 1, 1)}, onUse(name, "a", 0, 0)))
		spoils(t, "a use at a name that is none", onTree([]string{onNode("a", "", 1, 1, 1, 1, 1, 1)}, onUse("x", name, 0, 0)))
	}
}

// TestQU4Counts: as many nodes and uses as may be, and one more; counts beyond what is there.
func TestQU4Counts(t *testing.T) {
	var nodes, uses []string
	for i := range api.MaxNodes + 1 {
		nodes = append(nodes, onNode(fmt.Sprintf("n%04d", i), "", 1, 1, 0, 0, 0, 0))
	}
	for i := range api.MaxUses + 1 {
		uses = append(uses, onUse(fmt.Sprintf("u%04d", i), fmt.Sprintf("n%04d", i%api.MaxNodes), 0, 0))
	}
	decodes(t, onTree(nodes[:api.MaxNodes], uses[:api.MaxUses]...))
	decodes(t, onTree(nodes[:api.MaxNodes]))
	decodes(t, onTree(nodes[:1]))
	spoils(t, "one node too many", onTree(nodes))
	spoils(t, "one use too many", onTree(nodes[:api.MaxNodes], uses...))
	s := strings.Join(nodes[:3], "")
	for _, n := range []string{"2", "4", "256", "257", "1000000", "18446744073709551615", "18446744073709551616", "03", "-3", ""} {
		spoils(t, "a count of "+n, "n"+n+";"+s+"n0;")
		spoils(t, "a count of "+n+" uses", "n3;"+s+"n"+n+";"+uses[0]+uses[1]+uses[2])
	}
	spoils(t, "a count of another kind", "i3;"+s+"n0;")
	chain := nodes[:0:0]
	for i := range api.MaxNodes {
		parent := fmt.Sprintf("n%04d", i+1)
		if i == api.MaxNodes-1 {
			parent = ""
		}
		chain = append(chain, onNode(fmt.Sprintf("n%04d", i), parent, 1, 1, 0, 0, 0, 0))
	}
	decodes(t, onTree(chain, uses[:api.MaxUses]...))
}

// TestQU4Over: numbers, totals and useds that are MaxAmount, and one more.
func TestQU4Over(t *testing.T) {
	for i := range 6 {
		numbers := make([]int, 6)
		numbers[i] = most
		decodes(t, onTree([]string{onNode("a", "", numbers...)}))
		numbers[i]++
		spoils(t, "an amount that is none", onTree([]string{onNode("a", "", numbers...)}))
	}
	for kind := range 2 {
		amounts := func(n int) []int {
			numbers := []int{0, 0, most, most, 0, 0}
			numbers[kind] = n
			return numbers
		}
		two := func(first, second int) []string {
			return []string{onNode("a", "b", amounts(first)...), onNode("b", "c", amounts(second)...), onNode("c", "", 0, 0, 0, 0, 0, 0)}
		}
		used := func(id, at string, n int) string {
			if kind == 0 {
				return onUse(id, at, n, 0)
			}
			return onUse(id, at, 0, n)
		}
		decodes(t, onTree(two(1, most-1)))
		decodes(t, onTree(two(1, most-1), used("x", "a", most)))
		decodes(t, onTree(two(1, most-1), used("x", "a", most-3), used("y", "a", 3)))
		spoils(t, "a total of too much", onTree(two(2, most-1)))
		spoils(t, "a total of too much", onTree(two(most, most)))
		spoils(t, "a used of no amount", onTree(two(1, most-1), used("x", "a", most+1)))
		spoils(t, "a used of too much", onTree(two(1, most-1), used("x", "a", most-3), used("y", "a", 4)))
		spoils(t, "a used of too much", onTree(two(1, most-1), used("x", "a", most), used("y", "a", most)))
	}
}

// TestQU4Holds: bytes of a tree that does not hold, by one, in each part, at each node.
func TestQU4Holds(t *testing.T) {
	nodes := []string{onNode("a", "r", 4, 4, 9, 9, 0, 0), onNode("b", "r", 4, 4, 0, 0, 1, 1), onNode("r", "", 2, 2, 5, 5, 5, 5)}
	decodes(t, onTree(nodes, onUse("x", "a", 7, 7)))
	spoils(t, "too much at the root", onTree(nodes, onUse("x", "a", 8, 7)))
	spoils(t, "too much at the root", onTree(nodes, onUse("x", "a", 7, 8)))
	decodes(t, onTree(nodes, onUse("x", "b", 4, 4)))
	spoils(t, "too much at a leaf", onTree(nodes, onUse("x", "b", 5, 4)))
	spoils(t, "too much at a leaf", onTree(nodes, onUse("x", "b", 4, 5)))
	decodes(t, onTree(nodes, onUse("x", "r", 3, 3)))
	spoils(t, "too much at the root itself", onTree(nodes, onUse("x", "r", 4, 3)))
	spoils(t, "too much at the root itself", onTree(nodes, onUse("x", "r", 3, 4)))
	decodes(t, onTree(nodes, onUse("x", "a", 5, 6), onUse("y", "b", 4, 3), onUse("z", "r", 1, 1)))
	spoils(t, "too much of all", onTree(nodes, onUse("x", "a", 5, 6), onUse("y", "b", 4, 3), onUse("z", "r", 2, 1)))
	spoils(t, "too much of all", onTree(nodes, onUse("x", "a", 5, 6), onUse("y", "b", 4, 4), onUse("z", "r", 1, 1)))
}

// TestQU4Forms: things of another kind, and noughts that are needless, in each place.
func TestQU4Forms(t *testing.T) {
	a := "t1:at0:n9;n9;n0;n0;n0;n0;"
	decodes(t, "n1;"+a+"n1;t1:xt1:an1;n2;")
	for _, bad := range []string{"b1:at0:n9;n9;n0;n0;n0;n0;", "t1:ab0:n9;n9;n0;n0;n0;n0;", "t1:at0:i9;n9;n0;n0;n0;n0;", "t1:at0:n9;n9;n0;n0;n0;i0;", "t1:at0:n09;n9;n0;n0;n0;n0;", "t01:at0:n9;n9;n0;n0;n0;n0;", "t1:at0:n9;n9;n0;n0;n0;", "t1:at0:n9;n9;n0;n0;n0;n0;n0;", "t1:an9;n9;n0;n0;n0;n0;", "t0:t0:n9;n9;n0;n0;n0;n0;", "t1:at0:n9;n9;n-0;n0;n0;n0;"} {
		spoils(t, "a node of another form", "n1;"+bad+"n0;")
	}
	for _, bad := range []string{"b1:xt1:an1;n2;", "t1:xb1:an1;n2;", "t1:xt1:ai1;n2;", "t1:xt1:an1;", "t1:xt1:an1;n2;n3;", "t1:xt1:an1;n02;", "t1:xn1;n2;", "y"} {
		spoils(t, "a use of another form", "n1;"+a+"n1;"+bad)
	}
}

// TestRule1Decode: any bytes are decoded without a panic.
func TestRule1Decode(t *testing.T) {
	r := rand.New(rand.NewSource(6))
	q := example(t)
	admit(t, q, use("y", "a", 1+2i), use("x", "b", 2))
	s := string(q.Encode())
	pieces := []string{"n", "t", ";", ":", "0", "1", "2", "99", "a", "b", "r", "n1;", "t1:a", "t0:", "n0;n0;", "\xff", s[:20], s[20:60], s[60:]}
	for range 20000 {
		var in strings.Builder
		for range r.Intn(12) {
			in.WriteString(pieces[r.Intn(len(pieces))])
		}
		if d, err := quota.Decode([]byte(in.String())); (err != nil) != (d == nil) || err != nil && number(err) != api.ErrForm {
			t.Fatalf("Decode of %q: %v, %v", in.String(), d, err)
		} else if err == nil && string(d.Encode()) != in.String() {
			t.Fatalf("Decode of %q: %q", in.String(), d.Encode())
		}
	}
}

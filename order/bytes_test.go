package order_test

import (
	"math"
	"slices"
	"strconv"
	"strings"
	"testing"

	"tollbar/api"
	"tollbar/order"
	"tollbar/quota"
)

// text is a text as bytes, whatever package pack says of it.
func text(s string) string { return "t" + strconv.Itoa(len(s)) + ":" + s }

// onBytes are an order's bytes, of its kind, its four texts, and its eight numbers as digits.
func onBytes(kind string, texts [4]string, numbers [8]string) string {
	s := "i" + kind + ";" + text(texts[0]) + text(texts[1])
	for i, n := range numbers {
		if i == 6 {
			s += text(texts[2]) + text(texts[3])
		}
		s += "n" + n + ";"
	}
	return s
}

// plainTexts and plainNumbers are of an order of which each thing is another one.
func plainTexts() [4]string { return [4]string{"ab", "cd", "ef", "gh"} }

func plainNumbers() [8]string { return [8]string{"1", "2", "3", "4", "5", "6", "7", "8"} }

// plainOrder is the order of these.
func plainOrder(kind int) order.Order {
	return order.Order{Kind: kind, Node: node("ab", "cd", 1+2i, 3+4i, 5+6i), Use: use("ef", "gh", 7+8i)}
}

// sameOrder tells whether two orders are the same, the signs of noughts too.
func sameOrder(a, b order.Order) bool {
	n, m := a.Node, b.Node
	return a.Kind == b.Kind && n.Name == m.Name && n.Parent == m.Parent && same(n.Own, m.Own) && same(n.Borrow, m.Borrow) && same(n.Lend, m.Lend) &&
		a.Use.ID == b.Use.ID && a.Use.Node == b.Use.Node && same(a.Use.Amount, b.Use.Amount)
}

// decodes looks at bytes that must be an order's, and at that its bytes are these.
func decodes(t *testing.T, in string, want order.Order) {
	t.Helper()
	got, err := order.Decode([]byte(in))
	if err != nil || !sameOrder(got, want) {
		t.Errorf("Decode of %q: %v, %v, not %v", in, got, err, want)
	}
	if s := string(order.Encode(want)); s != in {
		t.Errorf("Encode of %v: %q, not %q", want, s, in)
	}
}

// spoils looks at bytes that must be no order's.
func spoils(t *testing.T, what, in string) {
	t.Helper()
	got, err := order.Decode([]byte(in))
	if err != api.ErrForm || !sameOrder(got, order.Order{}) {
		t.Errorf("Decode, %s: %v, %v, of %.300q", what, got, err, in)
	}
}

// TestOR2Bytes: what stands in the bytes, one behind the other.
func TestOR2Bytes(t *testing.T) {
	decodes(t, "i4;t1:rt0:n5;n5;n0;n0;n0;n0;t0:t0:n0;n0;", order.Order{Kind: order.AddNode, Node: quota.Node{Name: "r", Own: 5 + 5i}})
	decodes(t, "i1;t0:t0:n0;n0;n0;n0;n0;n0;t1:xt2:abn3;n4;", order.Order{Kind: order.Admit, Use: use("x", "ab", 3+4i)})
	decodes(t, "i0;t0:t0:n0;n0;n0;n0;n0;n0;t0:t0:n0;n0;", order.Order{})
	decodes(t, "i6;t2:abt2:cdn1;n2;n3;n4;n5;n6;t2:eft2:ghn7;n8;", plainOrder(order.Query))
	decodes(t, onBytes("6", plainTexts(), plainNumbers()), plainOrder(order.Query))
}

// TestOR2Kinds: any number is laid and taken off, a kind or not; what is none is refused.
func TestOR2Kinds(t *testing.T) {
	for _, kind := range append(kinds(), noKinds()...) {
		decodes(t, onBytes(strconv.Itoa(kind), plainTexts(), plainNumbers()), plainOrder(kind))
	}
	decodes(t, onBytes("-9223372036854775808", plainTexts(), plainNumbers()), plainOrder(math.MinInt))
	decodes(t, onBytes("9223372036854775807", plainTexts(), plainNumbers()), plainOrder(math.MaxInt))
	for _, kind := range []string{"", "-", "-0", "01", "-01", "+1", " 1", "1.0", "9223372036854775808", "-9223372036854775809", "18446744073709551617", "a"} {
		spoils(t, "of a kind that is no number", onBytes(kind, plainTexts(), plainNumbers()))
	}
	whole := onBytes("1", plainTexts(), plainNumbers())
	for _, letter := range []string{"n", "t", "b", "y", "z", "", "I"} {
		spoils(t, "of another letter", letter+whole[1:])
	}
}

// TestOR2Texts: texts are any bytes, names or not, of none at all to MaxLabel: in each place.
func TestOR2Texts(t *testing.T) {
	full := strings.Repeat("n", api.MaxLabel)
	good := []string{"", "a", " ", "\x00", "\xff\xfe", "é", "i1;t2:", ";:", strings.Repeat("é", api.MaxLabel/2), full[1:], full, full[:api.MaxLabel-1] + "\x00"}
	long := []string{full + "n", full + "\x00", strings.Repeat("é", api.MaxLabel/2) + "x", strings.Repeat("é", api.MaxLabel), strings.Repeat("n", 1000)}
	for place := range 4 {
		texts, o := plainTexts(), plainOrder(3)
		at := [4]*string{&o.Node.Name, &o.Node.Parent, &o.Use.ID, &o.Use.Node}[place]
		for _, s := range good {
			texts[place], *at = s, s
			decodes(t, onBytes("3", texts, plainNumbers()), o)
		}
		for _, s := range long {
			texts[place], *at = s, s
			in := onBytes("3", texts, plainNumbers())
			if got := string(order.Encode(o)); got != in {
				t.Errorf("Encode of %v: %q, not %q", o, got, in)
			}
			spoils(t, "with a text that is too long", in)
		}
	}
	spoils(t, "with bytes for a text", strings.Replace(onBytes("3", plainTexts(), plainNumbers()), "t2:ab", "b2:ab", 1))
	spoils(t, "with a nought ahead of a length", strings.Replace(onBytes("3", plainTexts(), plainNumbers()), "t2:ab", "t02:ab", 1))
}

// TestOR2Amounts: amounts of both edges, in each place.
func TestOR2Amounts(t *testing.T) {
	for place := range 4 {
		for _, parts := range [][2]int{{0, 0}, {1, 0}, {0, 1}, {9, 10}, {most, 0}, {0, most}, {most, most}, {most - 1, 1<<32 + 1}} {
			numbers, o := plainNumbers(), plainOrder(2)
			numbers[2*place], numbers[2*place+1] = strconv.Itoa(parts[0]), strconv.Itoa(parts[1])
			*amountAt(&o, place) = c(parts[0], parts[1])
			decodes(t, onBytes("2", plainTexts(), numbers), o)
		}
	}
}

// amountAt is one of an order's amounts.
func amountAt(o *order.Order, place int) *complex128 {
	return [4]*complex128{&o.Node.Own, &o.Node.Borrow, &o.Node.Lend, &o.Use.Amount}[place]
}

// badNumbers are digits that are none of an amount's part.
func badNumbers() []string {
	return []string{"1099511627777", "1099511627778", "2199023255552", "9007199254740993", "9223372036854775808", "18446744073709551615", "18446744073709551616", "18446744073709551617", "", "00", "01", "-1", "-0", "+1", "1.0", "1e3", " 1", "a", ":"}
}

// TestOR2BadNumbers: numbers above MaxAmount, and what is no number, in each place.
func TestOR2BadNumbers(t *testing.T) {
	for place := range 8 {
		for _, n := range badNumbers() {
			numbers := plainNumbers()
			numbers[place] = n
			spoils(t, "with a number that is none", onBytes("2", plainTexts(), numbers))
		}
	}
}

// TestOR2Nones: of what is no amount nothing is laid, in each place, so that it can't be taken off.
func TestOR2Nones(t *testing.T) {
	for place := range 4 {
		for _, bad := range nones() {
			o := plainOrder(1)
			*amountAt(&o, place) = bad
			lost := "n" + strconv.Itoa(2*place+1) + ";n" + strconv.Itoa(2*place+2) + ";"
			in := strings.Replace(onBytes("1", plainTexts(), plainNumbers()), lost, "", 1)
			if got := string(order.Encode(o)); got != in {
				t.Errorf("Encode of %v: %q, not %q", o, got, in)
			}
			spoils(t, "without an amount", in)
		}
	}
	bad := nones()[0]
	o := order.Order{Kind: -1, Node: node("ab", "cd", bad, bad, bad), Use: use("ef", "gh", bad)}
	if got := string(order.Encode(o)); got != "i-1;t2:abt2:cdt2:eft2:gh" {
		t.Errorf("Encode of %v: %q", o, got)
	}
}

// TestOR2Cut: no begin of an order's bytes is one, nor are they with more behind or ahead.
func TestOR2Cut(t *testing.T) {
	for _, o := range []order.Order{{}, plainOrder(-5), plainOrder(math.MaxInt), set(node("r", "", 1, 2, 3))} {
		*amountAt(&o, 3) = c(most, 17)
		s := string(order.Encode(o))
		decodes(t, s, o)
		for i := range len(s) {
			spoils(t, "cut short", s[:i])
			spoils(t, "without its begin", s[i+1:])
		}
		for _, more := range []string{"\x00", " ", ";", "0", "n", "n0;", "n0;n0;", "y", "t0:", "i0;", s} {
			spoils(t, "with more behind", s+more)
			spoils(t, "with more ahead", more+s)
		}
	}
	if got, err := order.Decode(nil); err != api.ErrForm || !sameOrder(got, order.Order{}) {
		t.Errorf("Decode of nil: %v, %v", got, err)
	}
}

// TestOR2Changed: each byte changed into any other one makes no bytes of an order, or those of another one.
func TestOR2Changed(t *testing.T) {
	s := order.Encode(plainOrder(12))
	for i := range s {
		for other := range 256 {
			b := slices.Clone(s)
			b[i] = byte(other)
			o, err := order.Decode(b)
			if err != nil {
				spoils(t, "changed", string(b))
				continue
			}
			decodes(t, string(b), o)
			if other != int(s[i]) && sameOrder(o, plainOrder(12)) {
				t.Errorf("%q and %q are the same order", s, b)
			}
		}
	}
}

// fill overwrites bytes, and the spare room behind them.
func fill(b []byte) {
	b = b[:cap(b)]
	for i := range b {
		b[i] = '#'
	}
}

// spare is a text's bytes with room behind them.
func spare(s string) []byte { return append([]byte(s), "spare room"...)[:len(s)] }

// TestRule3Memory: bytes that are answered are new, spare room too; those that are handed in are not changed and not kept.
func TestRule3Memory(t *testing.T) {
	o, a := plainOrder(4), order.Answer{Err: -3, Used: 1 + 2i, Total: 3}
	want, wantAnswer := string(order.Encode(o)), string(order.EncodeAnswer(a))
	for range 2 {
		x, y := order.Encode(o), order.Encode(o)
		fill(x)
		u, v := order.EncodeAnswer(a), order.EncodeAnswer(a)
		fill(u)
		if string(y) != want || string(v) != wantAnswer {
			t.Errorf("Two answers share memory: %q, %q", y, v)
		}
	}
	in, inAnswer := spare(want), spare(wantAnswer)
	got, err := order.Decode(in)
	gotAnswer, err2 := order.DecodeAnswer(inAnswer)
	if err != nil || err2 != nil || string(in[:cap(in)][:len(in)+10]) != want+"spare room" || string(inAnswer[:cap(inAnswer)][:len(inAnswer)+10]) != wantAnswer+"spare room" {
		t.Errorf("Decode: %v, %v, of %q and %q now", err, err2, in, inAnswer)
	}
	fill(in)
	fill(inAnswer)
	if !sameOrder(got, o) || !sameAnswer(gotAnswer, a) {
		t.Errorf("Decode keeps its argument: %v, %v", got, gotAnswer)
	}
}

// TestRule3Done: what is done keeps nothing of the bytes that asked for it.
func TestRule3Done(t *testing.T) {
	q := quota.New()
	orders := []order.Order{
		{Kind: order.AddNode, Node: node("r", "", 5+5i, 0, 0)},
		{Kind: order.AddNode, Node: node("a", "r", 1+1i, 2, 3)},
		{Kind: order.Admit, Use: use("x", "a", 1+1i)},
		{Kind: order.SetQuota, Node: node("a", "", 1+1i, 2, 2)},
	}
	for _, o := range orders {
		b := order.Encode(o)
		got, err := order.Decode(b)
		if err != nil || !sameOrder(got, o) {
			t.Fatalf("Decode of %q: %v, %v", b, got, err)
		}
		if a := order.Do(q, got); a.Err != 0 {
			t.Fatalf("Do of %v: %v", got, a)
		}
		before := told(q)
		fill(b)
		if after := told(q); after != before {
			t.Errorf("The tree keeps %v: %s, not %s", o, after, before)
		}
	}
}

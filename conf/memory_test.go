package conf_test

import (
	"fmt"
	"slices"
	"testing"

	"tollbar/conf"
)

// roomy is a list with spare room behind it, in which no noughts stand.
func roomy(l []int) []int {
	own := append(make([]int, 0, len(l)+9), l...)
	for i := range own[len(l):cap(own)] {
		own[len(l):cap(own)][i] = 77
	}
	return own
}

// whole is all of a list, its spare room too.
func whole(l []int) []int { return l[:cap(l)] }

// spoil writes over all of a list, its spare room too.
func spoil(l []int) {
	for i := range whole(l) {
		whole(l)[i] = -7
	}
}

// calls are those that answer members, of members.
func calls() map[string]func(c conf.Conf) conf.Conf {
	answered := func(c conf.Conf, _ error) conf.Conf { return c }
	m := map[string]func(c conf.Conf) conf.Conf{
		"Decode": func(c conf.Conf) conf.Conf { return answered(conf.Decode(conf.Encode(c))) },
	}
	for _, who := range []int{0, 1, 2, 3, 4, 5, 6, 7, 8, 64, 65} {
		m[fmt.Sprint("Add ", who)] = func(c conf.Conf) conf.Conf { return answered(conf.Add(c, who)) }
		m[fmt.Sprint("Remove ", who)] = func(c conf.Conf) conf.Conf { return answered(conf.Remove(c, who)) }
	}
	return m
}

// TestRule3Conf: no answer shares anything with what is handed in, nor with another answer; what is handed in is not changed, its spare room neither.
func TestRule3Conf(t *testing.T) {
	for name, call := range calls() {
		for _, of := range append(confs(), nil, conf.Conf{3, 2, 1}, conf.Conf{1, 1}, conf.Conf{1, 2, 3, 4, 5, 6, 7, 8}) {
			c := conf.Conf(roomy(of))
			before := slices.Clone(whole(c))
			first, second := call(c), call(c)
			want := slices.Clone(first)
			what := fmt.Sprintf("%s of %v", name, of)
			if !slices.Equal(second, want) {
				t.Errorf("%s: %v, then %v", what, want, second)
			}
			spoil(second)
			if !slices.Equal(whole(c), before) {
				t.Errorf("%s: what was handed in is %v, not %v", what, whole(c), before)
			}
			spoil(c)
			if !slices.Equal(first, want) {
				t.Errorf("%s, behind a change of all else: %v, not %v", what, first, want)
			}
		}
	}
}

// TestRule3Asked: what is asked of members changes none of what is handed in.
func TestRule3Asked(t *testing.T) {
	for _, of := range append(confs(), nil, conf.Conf{3, 2, 1}) {
		c, other := conf.Conf(roomy(of)), conf.Conf(roomy([]int{1, 2, 3}))
		some := roomy([]int{64, 3, 1, 3, 65, -1, 2})
		marks := []conf.Mark{mark(3, 9), mark(1, -4), mark(64, 5), mark(1, 7), mark(65, 8), mark(2, 1)}
		kept := slices.Clone(marks)
		lists := [][]int{c, other, some}
		var before [][]int
		for _, l := range lists {
			before = append(before, slices.Clone(whole(l)))
		}
		conf.Check(c)
		conf.Has(c, 3)
		conf.Quorum(c, some)
		conf.Near(c, other)
		conf.Near(other, c)
		conf.Agreed(c, marks)
		conf.Encode(c)
		for i, l := range lists {
			if !slices.Equal(whole(l), before[i]) {
				t.Errorf("Of %v: %v, not %v", of, whole(l), before[i])
			}
		}
		if !slices.Equal(marks, kept) {
			t.Errorf("Of %v: the marks are %v, not %v", of, marks, kept)
		}
	}
}

// TestRule3Bytes: members and their bytes share nothing, either way, with spare room behind them.
func TestRule3Bytes(t *testing.T) {
	c := conf.Conf{1, 33, 64}
	first, second := conf.Encode(c), conf.Encode(c)
	want := string(first)
	for i := range first[:cap(first)] {
		first[:cap(first)][i] = '!'
	}
	spoil(c)
	if got := string(second); got != want {
		t.Errorf("Encode, behind a change of another answer and of the members: %q, not %q", got, want)
	}
	for _, s := range []string{want, want[:len(want)-1], want + "n", "", "n4;" + want[3:]} {
		b := append(make([]byte, 0, len(s)+64), s...)
		got, err := conf.Decode(b)
		again, _ := conf.Decode(b)
		if string(b) != s || string(b[len(s):cap(b)]) != string(make([]byte, 64)) || (err == nil) != (s == want) {
			t.Errorf("Decode of %q: %v, %q", s, err, b[:cap(b)])
		}
		before := slices.Clone(got)
		for i := range b[:cap(b)] {
			b[:cap(b)][i] = '!'
		}
		spoil(again)
		if !slices.Equal(got, before) {
			t.Errorf("Behind a change of the bytes and of another answer: %v, not %v", got, before)
		}
	}
}

// TestRule3Same: one list for both, or for members and some, is no fault.
func TestRule3Same(t *testing.T) {
	for _, c := range confs() {
		if !conf.Near(c, c) || !conf.Quorum(c, c) {
			t.Errorf("Near, or Quorum, of %v with themselves", c)
		}
	}
}

// TestRule4: what is answered hangs on what is asked alone: not on spare room, nor on nil, nor on what was asked before.
func TestRule4(t *testing.T) {
	for _, c := range confs() {
		own := conf.Conf(roomy(c))
		for range 3 {
			for _, who := range numbers() {
				a, aErr := conf.Add(c, who)
				b, bErr := conf.Add(own, who)
				x, xErr := conf.Remove(c, who)
				y, yErr := conf.Remove(own, who)
				if !slices.Equal(a, b) || aErr != bErr || !slices.Equal(x, y) || xErr != yErr || conf.Has(c, who) != conf.Has(own, who) {
					t.Errorf("%v and %d: other answers", c, who)
				}
			}
		}
		if conf.Quorum(c, nil) != conf.Quorum(c, []int{}) || conf.Agreed(c, nil) != conf.Agreed(c, []conf.Mark{}) {
			t.Errorf("%v: nil and the empty list differ", c)
		}
	}
}

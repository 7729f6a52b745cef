package conf_test

import (
	"fmt"
	"math"
	"slices"
	"testing"

	"tollbar/api"
	"tollbar/conf"
)

// mostWho is the greatest number that a member may have.
const mostWho = 64

// confs are members that may be: few and many, an even and an odd number of them, at both ends of the numbers.
func confs() []conf.Conf {
	return []conf.Conf{
		{1}, {2}, {33}, {64},
		{1, 2}, {1, 64}, {63, 64}, {5, 9},
		{1, 2, 3}, {2, 4, 6}, {1, 33, 64}, {62, 63, 64},
		{1, 2, 3, 4}, {2, 10, 20, 63},
		{1, 2, 3, 4, 5}, {3, 7, 31, 32, 64},
		{1, 2, 3, 4, 5, 6}, {2, 4, 8, 16, 32, 64},
		{1, 2, 3, 4, 5, 6, 7}, {1, 10, 20, 30, 40, 50, 64}, {58, 59, 60, 61, 62, 63, 64}, {2, 4, 6, 8, 10, 12, 14},
	}
}

// noConfs are members that may not be, by why.
func noConfs() map[string]conf.Conf {
	m := map[string]conf.Conf{
		"nil": nil, "none": {},
		"one more":           {1, 2, 3, 4, 5, 6, 7, 8},
		"one more at last":   {57, 58, 59, 60, 61, 62, 63, 64},
		"many more":          make(conf.Conf, api.MaxList),
		"descending":         {3, 2, 1},
		"descending at last": {1, 3, 2},
		"descending two":     {2, 1},
		"turned at first":    {2, 1, 3},
		"one out of its row": {1, 2, 3, 64, 4},
		"one twice":          {2, 2},
		"the first twice":    {1, 1, 2},
		"the last twice":     {1, 2, 2},
		"one twice, apart":   {1, 2, 1},
		"all the same":       {3, 3, 3, 3, 3, 3, 3},
		"seven, one twice":   {1, 2, 3, 4, 5, 6, 6},
		"all numbers":        {},
	}
	for who := range mostWho {
		m["all numbers"] = append(m["all numbers"], who+1)
	}
	for _, n := range noNumbers() {
		m[fmt.Sprint(n, " alone")] = conf.Conf{n}
		m[fmt.Sprint(n, " at first")] = conf.Conf{n, 2, 3}
		m[fmt.Sprint(n, " in the midst")] = conf.Conf{1, n, 3}
		m[fmt.Sprint(n, " at last")] = conf.Conf{1, 2, n}
		m[fmt.Sprint(n, " twice")] = conf.Conf{n, n}
	}
	return m
}

// noNumbers are numbers that no member may have: about the bounds, and those that a smaller number would have for one.
func noNumbers() []int {
	l := []int{math.MinInt, math.MinInt + 1, -64, -2, -1, 0, 65, 66, 128, math.MaxInt - 1, math.MaxInt}
	for _, bits := range []int{8, 16, 32} {
		l = append(l, 1<<bits, 1<<bits+2, 2-1<<bits)
	}
	return append(l, math.MinInt+2)
}

// numbers are all that a member may have, and those that it may not.
func numbers() []int {
	l := noNumbers()
	for who := range mostWho {
		l = append(l, who+1)
	}
	return l
}

// stands tells whether members may be, as the words say it.
func stands(c conf.Conf) bool {
	for i, who := range c {
		if who < 1 || who > mostWho || slices.Index(c, who) != i {
			return false
		}
	}
	return len(c) >= 1 && len(c) <= api.MaxMembers && slices.IsSorted(c)
}

// isConf looks at members that were answered.
func isConf(t *testing.T, what string, got conf.Conf, err error, want conf.Conf) {
	t.Helper()
	if err != nil || !slices.Equal(got, want) {
		t.Errorf("%s: %v, %v, not %v", what, got, err, want)
	}
}

// isNone looks at an error that stands alone.
func isNone(t *testing.T, what string, got conf.Conf, err error, want api.Errno) {
	t.Helper()
	if err != want || len(got) != 0 {
		t.Errorf("%s: %v, %v, not %v", what, got, err, want)
	}
}

// lists are all lists of up to so many of some numbers.
func lists(most int, some ...int) []conf.Conf {
	l := []conf.Conf{nil}
	for from := 0; most > 0; most-- {
		to := len(l)
		for _, c := range l[from:to] {
			for _, n := range some {
				l = append(l, append(slices.Clone(c), n))
			}
		}
		from = to
	}
	return l
}

// among are all members out of so many numbers from 1 on, none of them left out.
func among(most int) []conf.Conf {
	var l []conf.Conf
	for bits := range 1 << most {
		var c conf.Conf
		for i := range most {
			if bits>>i&1 == 1 {
				c = append(c, i+1)
			}
		}
		if len(c) >= 1 && len(c) <= api.MaxMembers {
			l = append(l, c)
		}
	}
	return l
}

// TestCO1Check: members that may be, and each way in which they may not.
func TestCO1Check(t *testing.T) {
	for _, c := range confs() {
		if err := conf.Check(c); err != nil {
			t.Errorf("Check of %v: %v", c, err)
		}
	}
	for why, c := range noConfs() {
		if err := conf.Check(c); err != api.ErrArg {
			t.Errorf("Check of %s: %v", why, err)
		}
	}
}

// TestCO1CheckAll: all short lists of numbers about the bounds, and all members of a small set.
func TestCO1CheckAll(t *testing.T) {
	for _, c := range lists(4, math.MinInt, -1, 0, 1, 2, 3, 63, 64, 65, math.MaxInt) {
		if err := conf.Check(c); (err == nil) != stands(c) {
			t.Errorf("Check of %v: %v", c, err)
		}
	}
	for _, c := range among(10) {
		if err := conf.Check(c); err != nil {
			t.Errorf("Check of %v: %v", c, err)
		}
	}
}

// TestCO1NoConf: every call, of members that may not be.
func TestCO1NoConf(t *testing.T) {
	for why, c := range noConfs() {
		for _, who := range append(numbers(), c[:min(len(c), 8)]...) {
			if conf.Has(c, who) {
				t.Errorf("Has of %s, %d", why, who)
			}
			got, err := conf.Add(c, who)
			isNone(t, fmt.Sprintf("Add of %s, %d", why, who), got, err, api.ErrArg)
			got, err = conf.Remove(c, who)
			isNone(t, fmt.Sprintf("Remove of %s, %d", why, who), got, err, api.ErrArg)
		}
		for _, some := range [][]int{nil, {}, {1}, c, numbers()} {
			if conf.Quorum(c, some) {
				t.Errorf("Quorum of %s, %v", why, some)
			}
		}
		for _, other := range append(confs(), c, nil, conf.Conf{}) {
			if conf.Near(c, other) || conf.Near(other, c) {
				t.Errorf("Near of %s, %v", why, other)
			}
		}
		var l []conf.Mark
		for _, who := range append(numbers(), c...) {
			l = append(l, conf.Mark{Member: who, N: 5})
		}
		if n := conf.Agreed(c, l); n != 0 {
			t.Errorf("Agreed of %s: %d", why, n)
		}
		got, err := conf.Decode(conf.Encode(c))
		isNone(t, "Decode of "+why, got, err, api.ErrForm)
	}
}

// TestCO1NoConfNear: two that may not be are not near, however little they differ.
func TestCO1NoConfNear(t *testing.T) {
	for why, c := range noConfs() {
		for other, d := range noConfs() {
			if conf.Near(c, d) {
				t.Errorf("Near of %s, %s", why, other)
			}
		}
	}
	for _, x := range [][2]conf.Conf{
		{{1}, {}}, {{1}, nil}, {{1, 2}, {2, 1}}, {{1, 2}, {1, 1, 2}}, {{1, 2}, {0, 1, 2}}, {{64}, {64, 65}}, {{1, 2}, {1, 2, 2}}, {{1, 2}, {1, 2, math.MaxInt}},
		{{1, 2, 3, 4, 5, 6, 7}, {1, 2, 3, 4, 5, 6, 7, 8}}, {{1, 2}, {2, 2}}, {{1}, {math.MinInt, 1}}, {{2, 3}, {2, 3, 1}},
	} {
		if conf.Near(x[0], x[1]) || conf.Near(x[1], x[0]) {
			t.Errorf("Near of %v, %v", x[0], x[1])
		}
	}
}

// TestCO1Has: each member, each number that is none, and those that no member may have.
func TestCO1Has(t *testing.T) {
	for _, c := range confs() {
		for _, who := range c {
			if !conf.Has(c, who) {
				t.Errorf("Has of %v, %d", c, who)
			}
		}
		for _, who := range numbers() {
			if conf.Has(c, who) != slices.Contains(c, who) {
				t.Errorf("Has of %v, %d", c, who)
			}
		}
	}
}

// TestCO1Add: with one more, at its place; one that is there, one that can't be, and no room.
func TestCO1Add(t *testing.T) {
	for _, x := range []struct {
		c    conf.Conf
		who  int
		want conf.Conf
	}{
		{conf.Conf{2}, 1, conf.Conf{1, 2}},
		{conf.Conf{1}, 2, conf.Conf{1, 2}},
		{conf.Conf{1}, 64, conf.Conf{1, 64}},
		{conf.Conf{64}, 1, conf.Conf{1, 64}},
		{conf.Conf{2, 4, 6}, 1, conf.Conf{1, 2, 4, 6}},
		{conf.Conf{2, 4, 6}, 3, conf.Conf{2, 3, 4, 6}},
		{conf.Conf{2, 4, 6}, 5, conf.Conf{2, 4, 5, 6}},
		{conf.Conf{2, 4, 6}, 7, conf.Conf{2, 4, 6, 7}},
		{conf.Conf{2, 4, 6}, 64, conf.Conf{2, 4, 6, 64}},
		{conf.Conf{2, 3, 4, 5, 6, 7}, 1, conf.Conf{1, 2, 3, 4, 5, 6, 7}},
		{conf.Conf{1, 2, 3, 5, 6, 7}, 4, conf.Conf{1, 2, 3, 4, 5, 6, 7}},
		{conf.Conf{1, 2, 3, 4, 5, 6}, 64, conf.Conf{1, 2, 3, 4, 5, 6, 64}},
	} {
		got, err := conf.Add(x.c, x.who)
		isConf(t, fmt.Sprintf("Add of %v, %d", x.c, x.who), got, err, x.want)
	}
}

// TestCO1AddErrors: which error is told, also where several apply.
func TestCO1AddErrors(t *testing.T) {
	full := conf.Conf{1, 2, 3, 4, 5, 6, 7}
	for _, x := range []struct {
		c    conf.Conf
		who  int
		want api.Errno
	}{
		{conf.Conf{1}, 1, api.ErrTwice}, {conf.Conf{64}, 64, api.ErrTwice}, {conf.Conf{1, 2, 3}, 2, api.ErrTwice}, {conf.Conf{1, 2, 3}, 3, api.ErrTwice},
		{full, 8, api.ErrFull}, {full, 64, api.ErrFull}, {conf.Conf{2, 3, 4, 5, 6, 7, 8}, 1, api.ErrFull}, {conf.Conf{1, 2, 3, 61, 62, 63, 64}, 30, api.ErrFull},
		{full, 1, api.ErrTwice}, {full, 4, api.ErrTwice}, {full, 7, api.ErrTwice},
		{full, 0, api.ErrArg}, {full, 65, api.ErrArg}, {full, math.MinInt, api.ErrArg}, {full, math.MaxInt, api.ErrArg},
	} {
		got, err := conf.Add(x.c, x.who)
		isNone(t, fmt.Sprintf("Add of %v, %d", x.c, x.who), got, err, x.want)
	}
	for _, c := range confs() {
		for _, who := range noNumbers() {
			got, err := conf.Add(c, who)
			isNone(t, fmt.Sprintf("Add of %v, %d", c, who), got, err, api.ErrArg)
		}
	}
}

// TestCO1AddAll: every number to all members.
func TestCO1AddAll(t *testing.T) {
	for _, c := range append(confs(), among(8)...) {
		for who := 1; who <= mostWho; who++ {
			got, err := conf.Add(c, who)
			what := fmt.Sprintf("Add of %v, %d", c, who)
			switch {
			case slices.Contains(c, who):
				isNone(t, what, got, err, api.ErrTwice)
			case len(c) == api.MaxMembers:
				isNone(t, what, got, err, api.ErrFull)
			default:
				want := append(slices.Clone(c), who)
				slices.Sort(want)
				isConf(t, what, got, err, want)
			}
		}
	}
}

// TestCO1Remove: without the first, a middle, the last one.
func TestCO1Remove(t *testing.T) {
	for _, x := range []struct {
		c    conf.Conf
		who  int
		want conf.Conf
	}{
		{conf.Conf{1, 2}, 1, conf.Conf{2}},
		{conf.Conf{1, 2}, 2, conf.Conf{1}},
		{conf.Conf{1, 33, 64}, 1, conf.Conf{33, 64}},
		{conf.Conf{1, 33, 64}, 33, conf.Conf{1, 64}},
		{conf.Conf{1, 33, 64}, 64, conf.Conf{1, 33}},
		{conf.Conf{1, 2, 3, 4, 5, 6, 7}, 1, conf.Conf{2, 3, 4, 5, 6, 7}},
		{conf.Conf{1, 2, 3, 4, 5, 6, 7}, 4, conf.Conf{1, 2, 3, 5, 6, 7}},
		{conf.Conf{1, 2, 3, 4, 5, 6, 7}, 7, conf.Conf{1, 2, 3, 4, 5, 6}},
	} {
		got, err := conf.Remove(x.c, x.who)
		isConf(t, fmt.Sprintf("Remove of %v, %d", x.c, x.who), got, err, x.want)
	}
}

// TestCO1RemoveErrors: one that is none, told first, and the only one.
func TestCO1RemoveErrors(t *testing.T) {
	for _, c := range confs() {
		for _, who := range numbers() {
			if slices.Contains(c, who) {
				continue
			}
			got, err := conf.Remove(c, who)
			isNone(t, fmt.Sprintf("Remove of %v, %d", c, who), got, err, api.ErrNone)
		}
	}
	for who := 1; who <= mostWho; who++ {
		got, err := conf.Remove(conf.Conf{who}, who)
		isNone(t, fmt.Sprintf("Remove of %d, the only one", who), got, err, api.ErrArg)
	}
}

// TestCO1RemoveAll: every member of all; who is taken away and added again, or the other way, leaves them as they were.
func TestCO1RemoveAll(t *testing.T) {
	for _, c := range append(confs(), among(8)...) {
		for at, who := range c {
			if len(c) == 1 {
				continue
			}
			want := append(slices.Clone(c[:at]), c[at+1:]...)
			got, err := conf.Remove(c, who)
			isConf(t, fmt.Sprintf("Remove of %v, %d", c, who), got, err, want)
			got, err = conf.Add(got, who)
			isConf(t, fmt.Sprintf("Add of %v, %d", want, who), got, err, c)
		}
	}
}

package conf_test

import (
	"math"
	"math/rand"
	"slices"
	"testing"

	"tollbar/conf"
)

// mark is a mark.
func mark(member, n int) conf.Mark { return conf.Mark{Member: member, N: n} }

// reach tells whether more than half of the members have a mark of n at least, as the words say it.
func reach(c conf.Conf, l []conf.Mark, n int) bool {
	var some []int
	for _, who := range c {
		has, most := false, 0
		for _, m := range l {
			if m.Member == who && (!has || m.N > most) {
				has, most = true, m.N
			}
		}
		if most >= n {
			some = append(some, who)
		}
	}
	return isMost(c, some)
}

// agreed is what Agreed must tell: the greatest of the marks, and of 0, that enough have reached.
func agreed(c conf.Conf, l []conf.Mark) int {
	best := 0
	for _, m := range l {
		if m.N > best && reach(c, l, m.N) {
			best = m.N
		}
	}
	return best
}

// isAgreed looks at an Agreed, also with the marks the other way round.
func isAgreed(t *testing.T, c conf.Conf, l []conf.Mark, want int) {
	t.Helper()
	back := slices.Clone(l)
	slices.Reverse(back)
	for _, l := range [][]conf.Mark{l, back} {
		if got := conf.Agreed(c, l); got != want {
			t.Errorf("Agreed of %v, %v: %d, not %d", c, l, got, want)
		}
	}
}

// TestCO2AgreedExample: the document's example.
func TestCO2AgreedExample(t *testing.T) {
	isAgreed(t, conf.Conf{1, 2, 3}, []conf.Mark{mark(1, 5), mark(2, 9), mark(3, 7)}, 7)
}

// TestCO2Agreed: marks of all, of exactly half, of more than half and of none.
func TestCO2Agreed(t *testing.T) {
	one, two, three, four := conf.Conf{5}, conf.Conf{5, 9}, conf.Conf{1, 33, 64}, conf.Conf{2, 10, 20, 63}
	for _, x := range []struct {
		c    conf.Conf
		l    []conf.Mark
		want int
	}{
		{one, nil, 0}, {one, []conf.Mark{}, 0}, {one, []conf.Mark{mark(5, 8)}, 8}, {one, []conf.Mark{mark(5, 0)}, 0}, {one, []conf.Mark{mark(4, 8), mark(6, 8)}, 0},
		{two, nil, 0}, {two, []conf.Mark{mark(5, 8)}, 0}, {two, []conf.Mark{mark(9, 8)}, 0}, {two, []conf.Mark{mark(5, 8), mark(9, 3)}, 3}, {two, []conf.Mark{mark(5, 8), mark(9, 8)}, 8},
		{three, []conf.Mark{mark(33, 8)}, 0}, {three, []conf.Mark{mark(33, 8), mark(1, 2)}, 2}, {three, []conf.Mark{mark(33, 8), mark(1, 2), mark(64, 2)}, 2}, {three, []conf.Mark{mark(33, 8), mark(1, 8), mark(64, 2)}, 8}, {three, []conf.Mark{mark(33, 1), mark(1, 2), mark(64, 3)}, 2},
		{four, []conf.Mark{mark(2, 8), mark(10, 8)}, 0}, {four, []conf.Mark{mark(2, 8), mark(10, 8), mark(63, 8)}, 8}, {four, []conf.Mark{mark(2, 8), mark(10, 7), mark(63, 6)}, 6}, {four, []conf.Mark{mark(2, 1), mark(10, 2), mark(20, 3), mark(63, 4)}, 2}, {four, []conf.Mark{mark(2, 9), mark(10, 9), mark(20, 3), mark(63, 3)}, 3},
		{conf.Conf{1, 2, 3, 4, 5}, []conf.Mark{mark(1, 1), mark(2, 2), mark(3, 3), mark(4, 4), mark(5, 5)}, 3},
		{conf.Conf{1, 2, 3, 4, 5, 6}, []conf.Mark{mark(1, 1), mark(2, 2), mark(3, 3), mark(4, 4), mark(5, 5), mark(6, 6)}, 3},
		{conf.Conf{1, 2, 3, 4, 5, 6, 7}, []conf.Mark{mark(1, 1), mark(2, 2), mark(3, 3), mark(4, 4), mark(5, 5), mark(6, 6), mark(7, 7)}, 4},
		{conf.Conf{1, 2, 3, 4, 5, 6, 7}, []conf.Mark{mark(1, 1), mark(2, 1), mark(3, 1)}, 0},
		{conf.Conf{1, 2, 3, 4, 5, 6, 7}, []conf.Mark{mark(1, 1), mark(2, 1), mark(3, 1), mark(7, 1)}, 1},
	} {
		isAgreed(t, x.c, x.l, x.want)
	}
}

// TestCO2AgreedSeveral: of a member's marks the greatest one counts, wherever it stands, and each member once.
func TestCO2AgreedSeveral(t *testing.T) {
	c := conf.Conf{1, 2, 3}
	isAgreed(t, c, []conf.Mark{mark(1, 5), mark(1, 6), mark(1, 7)}, 0)
	isAgreed(t, c, []conf.Mark{mark(1, 5), mark(1, 5), mark(1, 5), mark(2, 4)}, 4)
	isAgreed(t, c, []conf.Mark{mark(1, 5), mark(1, 9), mark(1, 3), mark(2, 6), mark(2, 8), mark(2, 7)}, 8)
	isAgreed(t, c, []conf.Mark{mark(1, 9), mark(2, 8), mark(1, 1), mark(2, 1), mark(3, 0)}, 8)
	isAgreed(t, c, []conf.Mark{mark(1, 4), mark(1, -1), mark(2, math.MinInt), mark(2, 4)}, 4)
	isAgreed(t, conf.Conf{7}, []conf.Mark{mark(7, 3), mark(7, 4), mark(7, 2)}, 4)
}

// TestCO2AgreedBelow: marks below 0 agree on nothing, however many they are.
func TestCO2AgreedBelow(t *testing.T) {
	c := conf.Conf{1, 2, 3}
	for _, n := range []int{math.MinInt, math.MinInt + 1, -1 << 40, -2, -1} {
		isAgreed(t, conf.Conf{5}, []conf.Mark{mark(5, n)}, 0)
		isAgreed(t, conf.Conf{5}, []conf.Mark{mark(5, n), mark(5, 3)}, 3)
		isAgreed(t, c, []conf.Mark{mark(1, n), mark(2, n), mark(3, n)}, 0)
		isAgreed(t, c, []conf.Mark{mark(1, n), mark(2, n), mark(3, 7)}, 0)
		isAgreed(t, c, []conf.Mark{mark(1, n), mark(2, 8), mark(3, 7)}, 7)
		isAgreed(t, c, []conf.Mark{mark(1, n), mark(3, 7)}, 0)
		isAgreed(t, conf.Conf{1, 2, 3, 4}, []conf.Mark{mark(1, n), mark(2, 8), mark(3, 7)}, 0)
	}
}

// TestCO2AgreedOthers: marks of numbers that are no members count for nothing.
func TestCO2AgreedOthers(t *testing.T) {
	for _, c := range confs() {
		var others, all []conf.Mark
		for _, who := range numbers() {
			if !slices.Contains(c, who) {
				others = append(others, mark(who, 99), mark(who, math.MaxInt))
			}
		}
		isAgreed(t, c, others, 0)
		for i, who := range c {
			all = append(all, mark(who, 10+i))
		}
		want := 10 + (len(c)-1)/2
		isAgreed(t, c, all, want)
		isAgreed(t, c, append(slices.Clone(others), all...), want)
	}
}

// TestCO2AgreedEnds: the least and the greatest int.
func TestCO2AgreedEnds(t *testing.T) {
	c := conf.Conf{1, 2, 3}
	isAgreed(t, c, []conf.Mark{mark(1, math.MaxInt), mark(2, math.MaxInt), mark(3, math.MinInt)}, math.MaxInt)
	isAgreed(t, c, []conf.Mark{mark(1, math.MaxInt), mark(2, math.MaxInt-1), mark(3, math.MinInt)}, math.MaxInt-1)
	isAgreed(t, c, []conf.Mark{mark(1, math.MaxInt), mark(2, math.MinInt), mark(3, math.MinInt)}, 0)
	isAgreed(t, c, []conf.Mark{mark(1, math.MaxInt), mark(2, 0), mark(3, math.MinInt)}, 0)
	isAgreed(t, c, []conf.Mark{mark(1, math.MaxInt), mark(2, 1), mark(3, math.MinInt)}, 1)
	isAgreed(t, conf.Conf{64}, []conf.Mark{mark(64, math.MinInt), mark(64, math.MaxInt)}, math.MaxInt)
	isAgreed(t, conf.Conf{1, 2}, []conf.Mark{mark(1, math.MaxInt), mark(2, math.MaxInt)}, math.MaxInt)
}

// TestCO2AgreedHalf: so many of the members have reached it, and the others less: more than half are needed.
func TestCO2AgreedHalf(t *testing.T) {
	for _, c := range confs() {
		for n := range len(c) + 1 {
			for _, low := range []int{math.MinInt, -1, 0, 3} {
				var l []conf.Mark
				for i, who := range c {
					if i < n {
						l = append(l, mark(who, 8))
					} else {
						l = append(l, mark(who, low))
					}
				}
				want := max(low, 0)
				if 2*n > len(c) {
					want = 8
				}
				isAgreed(t, c, l, want)
			}
			var l []conf.Mark
			for _, who := range c[:n] {
				l = append(l, mark(who, 8))
			}
			want := 0
			if 2*n > len(c) {
				want = 8
			}
			isAgreed(t, c, l, want)
		}
	}
}

// TestCO2AgreedDrawn: drawn marks, several of one member and some of none, held against the words.
func TestCO2AgreedDrawn(t *testing.T) {
	draw := rand.New(rand.NewSource(10))
	values := []int{math.MinInt, -2, -1, 0, 1, 2, 3, 4, 5, math.MaxInt - 1, math.MaxInt}
	all := append(among(8), confs()...)
	for range 50000 {
		c := all[draw.Intn(len(all))]
		var l []conf.Mark
		for range draw.Intn(2 * len(c)) {
			who := draw.Intn(10)
			if draw.Intn(2) == 0 {
				who = c[draw.Intn(len(c))]
			}
			l = append(l, mark(who, values[draw.Intn(len(values))]))
		}
		want := agreed(c, l)
		isAgreed(t, c, l, want)
		// What is agreed is reached, and one more is not.
		if want > 0 && !reach(c, l, want) || want < math.MaxInt && reach(c, l, want+1) {
			t.Errorf("Agreed of %v, %v: %d is not the greatest", c, l, want)
		}
	}
}

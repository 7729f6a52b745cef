package conf_test

import (
	"math"
	"slices"
	"testing"

	"tollbar/conf"
)

// isMost tells whether some are more than half of the members, as the words say it.
func isMost(c conf.Conf, some []int) bool {
	counted := map[int]bool{}
	for _, who := range some {
		if slices.Contains(c, who) {
			counted[who] = true
		}
	}
	return 2*len(counted) > len(c)
}

// TestCO1QuorumExample: the document's example.
func TestCO1QuorumExample(t *testing.T) {
	if !conf.Quorum(conf.Conf{1, 2, 3}, []int{1, 3}) {
		t.Error("1 and 3 are no majority of 1, 2, 3")
	}
}

// TestCO1Quorum: exactly half, one more and one less; in any order, one several times, with others among them, and none.
func TestCO1Quorum(t *testing.T) {
	one, two, three := conf.Conf{5}, conf.Conf{5, 9}, conf.Conf{1, 33, 64}
	four, seven := conf.Conf{2, 10, 20, 63}, conf.Conf{1, 2, 3, 4, 5, 6, 7}
	for _, x := range []struct {
		c    conf.Conf
		some []int
		want bool
	}{
		{one, nil, false}, {one, []int{}, false}, {one, []int{5}, true}, {one, []int{5, 5}, true}, {one, []int{4}, false}, {one, []int{4, 6, 1, 64}, false}, {one, []int{4, 5}, true},
		{two, nil, false}, {two, []int{5}, false}, {two, []int{9}, false}, {two, []int{9, 9, 9}, false}, {two, []int{9, 5}, true}, {two, []int{5, 9}, true}, {two, []int{5, 8}, false},
		{three, nil, false}, {three, []int{64}, false}, {three, []int{64, 64}, false}, {three, []int{64, 64, 64}, false}, {three, []int{64, 1}, true}, {three, []int{33, 64}, true}, {three, []int{33, 64, 1}, true}, {three, []int{33, 2, 3}, false},
		{four, []int{20}, false}, {four, []int{20, 10}, false}, {four, []int{20, 10, 20, 10}, false}, {four, []int{20, 10, 1, 3}, false}, {four, []int{20, 10, 2}, true}, {four, []int{63, 2, 63, 10, 63}, true}, {four, []int{63, 20, 10, 2}, true},
		{seven, []int{1, 2, 3}, false}, {seven, []int{7, 6, 5}, false}, {seven, []int{7, 1, 5, 3}, true}, {seven, []int{7, 1, 5, 8, 9, 10, 11}, false}, {seven, []int{7, 1, 5, 7, 1, 5, 7}, false}, {seven, []int{7, 6, 5, 4, 3, 2, 1}, true},
	} {
		if got := conf.Quorum(x.c, x.some); got != x.want {
			t.Errorf("Quorum of %v, %v: %v", x.c, x.some, got)
		}
	}
}

// TestCO1QuorumOthers: numbers that are no members count for nothing, as many as there may be of them.
func TestCO1QuorumOthers(t *testing.T) {
	for _, c := range confs() {
		var others []int
		for _, n := range append(numbers(), 0, -c[0], math.MinInt, math.MaxInt) {
			if !slices.Contains(c, n) {
				others = append(others, n, n)
			}
		}
		for n := range len(c) + 1 {
			want := 2*n > len(c)
			for _, some := range [][]int{
				c[:n], c[len(c)-n:], append(slices.Clone(others), c[:n]...), append(slices.Clone(c[:n]), others...), slices.Repeat(c[:n], 9),
			} {
				if got := conf.Quorum(c, some); got != want {
					t.Errorf("Quorum of %v, %v: %v", c, some, got)
				}
			}
		}
	}
}

// TestCO1QuorumAll: all lists of a few numbers, in every order and with every one several times, of all members out of them.
func TestCO1QuorumAll(t *testing.T) {
	for _, c := range among(5) {
		for _, some := range lists(5, 0, 1, 2, 3, 4, 5) {
			if got := conf.Quorum(c, some); got != isMost(c, some) {
				t.Errorf("Quorum of %v, %v: %v", c, some, got)
			}
		}
	}
}

// TestCO1QuorumSets: all that some may be, of all members out of eight.
func TestCO1QuorumSets(t *testing.T) {
	all := among(8)
	for _, c := range all {
		for _, some := range all {
			if got := conf.Quorum(c, some); got != isMost(c, some) {
				t.Errorf("Quorum of %v, %v: %v", c, some, got)
			}
		}
	}
}

package conf_test

import (
	"slices"
	"testing"

	"tollbar/conf"
)

// apart is how many members one has and the other has not.
func apart(a, b conf.Conf) int {
	n := 0
	for who := 1; who <= mostWho; who++ {
		if slices.Contains(a, who) != slices.Contains(b, who) {
			n++
		}
	}
	return n
}

// TestCO1Near: the same, one more, one less, one in another one's place, two more; in both orders.
func TestCO1Near(t *testing.T) {
	for _, x := range []struct {
		a, b conf.Conf
		want bool
	}{
		{conf.Conf{5}, conf.Conf{5}, true},
		{conf.Conf{1, 2, 3}, conf.Conf{1, 2, 3}, true},
		{conf.Conf{1, 2, 3, 4, 5, 6, 7}, conf.Conf{1, 2, 3, 4, 5, 6, 7}, true},
		{conf.Conf{1}, conf.Conf{1, 64}, true},
		{conf.Conf{2, 3}, conf.Conf{1, 2, 3}, true},
		{conf.Conf{1, 3}, conf.Conf{1, 2, 3}, true},
		{conf.Conf{1, 2}, conf.Conf{1, 2, 3}, true},
		{conf.Conf{1, 2, 3, 4, 5, 6}, conf.Conf{1, 2, 3, 4, 5, 6, 7}, true},
		{conf.Conf{2, 3, 4, 5, 6, 7}, conf.Conf{1, 2, 3, 4, 5, 6, 7}, true},
		{conf.Conf{1}, conf.Conf{2}, false},
		{conf.Conf{1, 2, 3}, conf.Conf{1, 2, 4}, false},
		{conf.Conf{1, 2, 3}, conf.Conf{2, 3, 4}, false},
		{conf.Conf{1, 2, 3, 4, 5, 6, 7}, conf.Conf{2, 3, 4, 5, 6, 7, 8}, false},
		{conf.Conf{1}, conf.Conf{1, 2, 3}, false},
		{conf.Conf{3}, conf.Conf{1, 2, 3}, false},
		{conf.Conf{1, 2}, conf.Conf{1, 2, 3, 4}, false},
		{conf.Conf{1}, conf.Conf{2, 3}, false},
		{conf.Conf{1, 2, 3}, conf.Conf{4, 5, 6}, false},
		{conf.Conf{1}, conf.Conf{1, 2, 3, 4, 5, 6, 7}, false},
	} {
		if conf.Near(x.a, x.b) != x.want || conf.Near(x.b, x.a) != x.want {
			t.Errorf("Near of %v, %v: not %v", x.a, x.b, x.want)
		}
	}
}

// TestCO1NearAll: all members out of eight, with one another.
func TestCO1NearAll(t *testing.T) {
	all := append(among(8), confs()...)
	for _, a := range all {
		for _, b := range all {
			if got := conf.Near(a, b); got != (apart(a, b) <= 1) {
				t.Errorf("Near of %v, %v: %v", a, b, got)
			}
		}
	}
}

// TestCO1NearSteps: members are near those that Add and Remove make of them.
func TestCO1NearSteps(t *testing.T) {
	for _, c := range append(confs(), among(8)...) {
		for who := 1; who <= mostWho; who++ {
			for _, change := range []func(conf.Conf, int) (conf.Conf, error){conf.Add, conf.Remove} {
				d, err := change(c, who)
				if near := conf.Near(c, d) && conf.Near(d, c); near != (err == nil) {
					t.Errorf("Near of %v, %v: %v", c, d, near)
				}
			}
		}
	}
}

// majorities are all lists of members that are one, as bits.
func majorities(c conf.Conf) []uint64 {
	var l []uint64
	for pick := range 1 << len(c) {
		var some []int
		var bits uint64
		for i, who := range c {
			if pick>>i&1 == 1 {
				some = append(some, who)
				bits |= 1 << (who - 1)
			}
		}
		if conf.Quorum(c, some) {
			l = append(l, bits)
		}
	}
	return l
}

// TestCO3Near: all majorities of all members out of eight that are near.
func TestCO3Near(t *testing.T) {
	all := among(8)
	known := make([][]uint64, len(all))
	for i, c := range all {
		known[i] = majorities(c)
		if len(known[i]) == 0 {
			t.Errorf("%v have no majority", c)
		}
	}
	pairs := 0
	for i, a := range all {
		for j, b := range all {
			if !conf.Near(a, b) {
				continue
			}
			pairs++
			for _, m := range known[i] {
				for _, n := range known[j] {
					if m&n == 0 {
						t.Fatalf("Majorities of %v, %v with none in common: %b, %b", a, b, m, n)
					}
				}
			}
		}
	}
	// Each with itself, and each with one of eight more or less, but for none and for all eight: 254 and 254 times 8 less 16.
	if want := 254 + 254*8 - 16; pairs != want {
		t.Errorf("%d pairs, not %d", pairs, want)
	}
}

// TestCO3Ends: the same of members at both ends of the numbers, and of those that one step makes of them.
func TestCO3Ends(t *testing.T) {
	for _, c := range confs() {
		for who := 1; who <= mostWho; who++ {
			for _, change := range []func(conf.Conf, int) (conf.Conf, error){conf.Add, conf.Remove} {
				d, err := change(c, who)
				if err != nil {
					continue
				}
				for _, m := range majorities(c) {
					for _, n := range majorities(d) {
						if m&n == 0 {
							t.Errorf("Majorities of %v, %v with none in common: %b, %b", c, d, m, n)
						}
					}
				}
			}
		}
	}
}

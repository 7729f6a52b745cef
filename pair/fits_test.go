package pair_test

import (
	"testing"

	"tollbar/pair"
)

// TestPA2Fits: each part by itself: one that is greater is enough not to fit.
func TestPA2Fits(t *testing.T) {
	cases := []struct {
		a, b complex128
		want bool
	}{
		{0, 0, true},
		{3 + 4i, 3 + 4i, true},
		{2 + 4i, 3 + 4i, true},
		{3 + 3i, 3 + 4i, true},
		{0, 3 + 4i, true},
		{4 + 4i, 3 + 4i, false},
		{3 + 5i, 3 + 4i, false},
		{4 + 0i, 3 + 4i, false},
		{0 + 5i, 3 + 4i, false},
		{4 + 5i, 3 + 4i, false},
		{1, 0, false},
		{1i, 0, false},
		{1, 1i, false},
		{1i, 1, false},
	}
	for _, x := range cases {
		if got := pair.Fits(x.a, x.b); got != x.want {
			t.Errorf("Fits of %v and %v: %v", x.a, x.b, got)
		}
	}
	pairs(func(a, b, m, n int) {
		if got := pair.Fits(c(a, b), c(m, n)); got != (a <= m && b <= n) {
			t.Fatalf("Fits of %d/%d and %d/%d: %v", a, b, m, n, got)
		}
	})
}

// TestPA2FitsNone: what is no amount fits nowhere, and nothing fits there.
func TestPA2FitsNone(t *testing.T) {
	others := append(nones(), goods()...)
	for _, x := range nones() {
		if pair.Fits(x, x) {
			t.Fatalf("Fits of %v and itself", x)
		}
		for _, y := range others {
			if pair.Fits(x, y) || pair.Fits(y, x) {
				t.Fatalf("Fits of %v and %v: %v, the other way %v", x, y, pair.Fits(x, y), pair.Fits(y, x))
			}
		}
	}
}

// TestPA2MostLeast: part by part, so that an answer may be neither of both.
func TestPA2MostLeast(t *testing.T) {
	x, err := pair.Most(3+4i, 1+9i)
	is(t, "Most", x, err, 3+9i)
	x, err = pair.Least(3+4i, 1+9i)
	is(t, "Least", x, err, 1+4i)
	for _, a := range goods() {
		x, err = pair.Most(a, a)
		is(t, "Most of the same", x, err, a)
		x, err = pair.Least(a, a)
		is(t, "Least of the same", x, err, a)
	}
	pairs(func(a, b, m, n int) {
		x, err := pair.Most(c(a, b), c(m, n))
		is(t, "Most", x, err, c(max(a, m), max(b, n)))
		y, err := pair.Least(c(a, b), c(m, n))
		is(t, "Least", y, err, c(min(a, m), min(b, n)))
		if !pair.Fits(y, x) || !pair.Fits(c(a, b), x) || !pair.Fits(y, c(m, n)) {
			t.Fatalf("%d/%d and %d/%d: the least %v, the most %v", a, b, m, n, y, x)
		}
	})
}

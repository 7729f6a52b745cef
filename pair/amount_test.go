package pair_test

import (
	"math"
	"testing"

	"tollbar/api"
	"tollbar/pair"
)

// most is the greatest part, as a float.
const most = float64(api.MaxAmount)

// minusNought is -0, which no constant is.
func minusNought() float64 { return math.Copysign(0, -1) }

// goodParts are what a part may be: both edges, and about the bounds of smaller numbers.
func goodParts() []int {
	return []int{0, 1, 2, 9, 10, 255, 256, 1<<31 - 1, 1 << 31, 1 << 32, 1<<32 + 1, api.MaxAmount - 1, api.MaxAmount}
}

// badParts are what a part may not be.
func badParts() []float64 {
	return []float64{
		minusNought(), -math.SmallestNonzeroFloat64, -0.5, -1, -2, -most, -most - 1, -math.MaxFloat64, math.Inf(-1),
		math.SmallestNonzeroFloat64, 0.1, 0.5, math.Nextafter(1, 0), math.Nextafter(1, 2), 1.5, 2.25,
		most - 0.5, math.Nextafter(most, 0), math.Nextafter(most, 2*most), most + 0.5, most + 1, 2 * most,
		1 << 53, 1 << 63, 1 << 64, math.MaxFloat64, math.Inf(1), math.NaN(), math.Copysign(math.NaN(), -1),
	}
}

// c is a complex number of two whole parts, whatever package pair says of it.
func c(a, b int) complex128 { return complex(float64(a), float64(b)) }

// goods are amounts.
func goods() []complex128 {
	var l []complex128
	for _, a := range goodParts() {
		for _, b := range goodParts() {
			l = append(l, c(a, b))
		}
	}
	return l
}

// nones are complex numbers that are no amounts: for the one part, for the other one, for both.
func nones() []complex128 {
	var l []complex128
	for _, bad := range badParts() {
		for _, good := range []float64{0, 1, most} {
			l = append(l, complex(bad, good), complex(good, bad))
		}
		for _, other := range []float64{bad, minusNought(), -1, 0.5, most + 1, math.NaN()} {
			l = append(l, complex(bad, other), complex(other, bad))
		}
	}
	return l
}

// same tells whether two complex numbers are the same, the signs of noughts too.
func same(a, b complex128) bool {
	return math.Float64bits(real(a)) == math.Float64bits(real(b)) && math.Float64bits(imag(a)) == math.Float64bits(imag(b))
}

// is looks at an amount that must be answered.
func is(t *testing.T, name string, got complex128, err error, want complex128) {
	t.Helper()
	if err != nil || !same(got, want) {
		t.Fatalf("%s: %v, %v, not %v", name, got, err, want)
	}
}

// fails looks at an error that must be answered, and 0 beside it.
func fails(t *testing.T, name string, got complex128, err error, want api.Errno) {
	t.Helper()
	if err != want || !same(got, 0) {
		t.Fatalf("%s: %v, %v, not %v", name, got, err, want)
	}
}

// TestPA1May: whole parts from 0 to MaxAmount, and nothing else, in either part.
func TestPA1May(t *testing.T) {
	for _, x := range goods() {
		if !pair.May(x) {
			t.Errorf("%v is none", x)
		}
	}
	for _, x := range nones() {
		if pair.May(x) {
			t.Errorf("%v is one", x)
		}
	}
}

// TestPA1Parts: an amount's numbers are those that it is of.
func TestPA1Parts(t *testing.T) {
	for _, a := range goodParts() {
		for _, b := range goodParts() {
			x, err := pair.Of(a, b)
			is(t, "Of", x, err, c(a, b))
			if m, n, err := pair.Parts(x); err != nil || m != a || n != b {
				t.Errorf("Parts of %v: %d, %d, %v", x, m, n, err)
			}
		}
	}
	for _, x := range nones() {
		if m, n, err := pair.Parts(x); err != api.ErrArg || m != 0 || n != 0 {
			t.Errorf("Parts of %v: %d, %d, %v", x, m, n, err)
		}
	}
}

// TestPA1OfErrors: numbers out of the bounds, in either part and in both, also where a float is not as fine as they are.
func TestPA1OfErrors(t *testing.T) {
	out := []int{
		-1, -2, -api.MaxAmount, -1 << 53, -1<<53 - 1, math.MinInt, math.MinInt + 1,
		api.MaxAmount + 1, api.MaxAmount + 2, 2 * api.MaxAmount, 1 << 53, 1<<53 + 1, 1<<62 + 1, math.MaxInt - 1, math.MaxInt,
	}
	for _, n := range out {
		for _, m := range []int{0, 1, api.MaxAmount, n, -1, api.MaxAmount + 1} {
			x, err := pair.Of(n, m)
			fails(t, "Of, the one part", x, err, api.ErrArg)
			x, err = pair.Of(m, n)
			fails(t, "Of, the other part", x, err, api.ErrArg)
		}
	}
}

// TestPA1Example: the document's example.
func TestPA1Example(t *testing.T) {
	a, err := pair.Of(3, 4)
	is(t, "Of", a, err, 3+4i)
	b, err := pair.Of(1, 1)
	is(t, "Of", b, err, 1+1i)
	x, err := pair.Add(a, b)
	is(t, "Add", x, err, 4+5i)
	if s := pair.Show(x); s != "4/5" {
		t.Errorf("Show: %q", s)
	}
}

// pairCalls are the calls of two amounts that can fail, by their names.
func pairCalls() map[string]func(a, b complex128) (complex128, error) {
	return map[string]func(a, b complex128) (complex128, error){
		"Add": pair.Add, "Sub": pair.Sub, "Most": pair.Most, "Least": pair.Least,
		"Sum": func(a, b complex128) (complex128, error) { return pair.Sum([]complex128{a, b}) },
	}
}

// TestPA1PA2None: what is no amount is refused in either argument and in both, by each call of two: ErrArg comes ahead of ErrOver and ErrRange.
func TestPA1PA2None(t *testing.T) {
	others := append(nones(), c(0, 0), c(1, 1), c(api.MaxAmount, 0), c(0, api.MaxAmount), c(api.MaxAmount, api.MaxAmount))
	for name, call := range pairCalls() {
		for _, x := range nones() {
			for _, y := range others {
				got, err := call(x, y)
				fails(t, name+", the first one none", got, err, api.ErrArg)
				got, err = call(y, x)
				fails(t, name+", the second one none", got, err, api.ErrArg)
			}
		}
	}
}

// TestRule4Same: the same calls answer the same, however often.
func TestRule4Same(t *testing.T) {
	for name, call := range pairCalls() {
		for _, x := range append(goods(), nones()...) {
			a, first := call(x, 1+1i)
			b, second := call(x, 1+1i)
			if !same(a, b) || first != second {
				t.Fatalf("%s of %v: %v, %v, then %v, %v", name, x, a, first, b, second)
			}
		}
	}
}

package pair_test

import (
	"math"
	"math/rand"
	"slices"
	"testing"

	"tollbar/api"
	"tollbar/pair"
)

// fromParts looks at an amount of whole numbers that must be answered; at the error, where a part can't be.
func fromParts(t *testing.T, name string, got complex128, err error, a, b int, out api.Errno) {
	t.Helper()
	if min(a, b) < 0 || max(a, b) > api.MaxAmount {
		fails(t, name, got, err, out)
		return
	}
	is(t, name, got, err, c(a, b))
}

// pairs goes over all pairs of some parts, as whole numbers.
func pairs(do func(a, b, m, n int)) {
	parts := []int{0, 1, 2, 1 << 32, api.MaxAmount / 2, api.MaxAmount/2 + 1, api.MaxAmount - 1, api.MaxAmount}
	for _, a := range parts {
		for _, b := range parts {
			for _, m := range parts {
				for _, n := range parts {
					do(a, b, m, n)
				}
			}
		}
	}
}

// TestPA1Add: each part is that of both together, up to MaxAmount and not one more, in the one part alone too.
func TestPA1Add(t *testing.T) {
	pairs(func(a, b, m, n int) {
		x, err := pair.Add(c(a, b), c(m, n))
		fromParts(t, "Add", x, err, a+m, b+n, api.ErrOver)
	})
	x, err := pair.Add(c(api.MaxAmount-5, 7), c(5, 8))
	is(t, "Add up to the most", x, err, c(api.MaxAmount, 15))
	x, err = pair.Add(c(api.MaxAmount-5, 7), c(6, 8))
	fails(t, "Add, one more in the one part", x, err, api.ErrOver)
	x, err = pair.Add(c(7, api.MaxAmount-5), c(8, 6))
	fails(t, "Add, one more in the other part", x, err, api.ErrOver)
}

// TestPA1Sub: each part is the one less the other one, down to 0 and not one less, in the one part alone too.
func TestPA1Sub(t *testing.T) {
	pairs(func(a, b, m, n int) {
		x, err := pair.Sub(c(a, b), c(m, n))
		fromParts(t, "Sub", x, err, a-m, b-n, api.ErrRange)
	})
	for _, a := range goods() {
		x, err := pair.Sub(a, a)
		is(t, "Sub of the same", x, err, 0)
		x, err = pair.Sub(a, 0)
		is(t, "Sub of nothing", x, err, a)
	}
	x, err := pair.Sub(7+8i, 8+8i)
	fails(t, "Sub, one more in the one part", x, err, api.ErrRange)
	x, err = pair.Sub(7+8i, 7+9i)
	fails(t, "Sub, one more in the other part", x, err, api.ErrRange)
}

// TestPA1Sum: lists that come to MaxAmount in a part, and to one more.
func TestPA1Sum(t *testing.T) {
	const n = 1024
	share := api.MaxAmount / n
	for _, l := range [][]complex128{nil, {}, {0}, {0, 0, 0}} {
		x, err := pair.Sum(l)
		is(t, "Sum of nothing", x, err, 0)
	}
	for _, a := range goods() {
		x, err := pair.Sum([]complex128{a})
		is(t, "Sum of one", x, err, a)
	}
	first, second := slices.Repeat([]complex128{c(share, 1)}, n), slices.Repeat([]complex128{c(2, share)}, n)
	x, err := pair.Sum(first)
	is(t, "Sum up to the most in the one part", x, err, c(api.MaxAmount, n))
	x, err = pair.Sum(second)
	is(t, "Sum up to the most in the other part", x, err, c(2*n, api.MaxAmount))
	for _, at := range []int{0, 1, n / 2, n} {
		x, err = pair.Sum(slices.Insert(slices.Clone(first), at, c(0, api.MaxAmount-n)))
		is(t, "Sum up to the most in both", x, err, c(api.MaxAmount, api.MaxAmount))
		x, err = pair.Sum(slices.Insert(slices.Clone(first), at, c(1, 0)))
		fails(t, "Sum, one more in the one part", x, err, api.ErrOver)
		x, err = pair.Sum(slices.Insert(slices.Clone(second), at, c(0, 1)))
		fails(t, "Sum, one more in the other part", x, err, api.ErrOver)
	}
}

// TestPA1SumFar: sums far beyond the most, also where whole numbers of 64 bits would have come round below 0, and to 0.
func TestPA1SumFar(t *testing.T) {
	far := func(l []complex128) {
		x, err := pair.Sum(l)
		fails(t, "Sum far beyond", x, err, api.ErrOver)
	}
	for _, n := range []int{2, 3, 1 << 12, 1<<13 + 1} {
		far(slices.Repeat([]complex128{c(api.MaxAmount, 0)}, n))
		far(slices.Repeat([]complex128{c(0, api.MaxAmount)}, n))
	}
	l := slices.Repeat([]complex128{c(api.MaxAmount, api.MaxAmount)}, 1<<24)
	far(l[:1<<23])
	far(l)
}

// TestPA1SumErrors: one that is none is told wherever it stands, also behind and ahead of a sum that is too much.
func TestPA1SumErrors(t *testing.T) {
	much := slices.Repeat([]complex128{c(api.MaxAmount, api.MaxAmount)}, 5)
	little := slices.Repeat([]complex128{1 + 1i}, 5)
	for _, bad := range nones() {
		for at := range 6 {
			x, err := pair.Sum(slices.Insert(slices.Clone(little), at, bad))
			fails(t, "Sum, one none", x, err, api.ErrArg)
			x, err = pair.Sum(slices.Insert(slices.Clone(much), at, bad))
			fails(t, "Sum of too much, one none", x, err, api.ErrArg)
		}
	}
	// Taken together their parts would be amounts.
	for _, l := range [][]complex128{{0.5, 0.5}, {2, -1}, {-1i, 2i}, {c(api.MaxAmount+1, 0), -1}, {c(1, 1), complex(minusNought(), 0)}} {
		x, err := pair.Sum(l)
		fails(t, "Sum of nones that come to an amount", x, err, api.ErrArg)
	}
}

// draws is a list of amounts, of which each part is below a bound.
func draws(draw *rand.Rand, n, below int) []complex128 {
	l := make([]complex128, n)
	for i := range l {
		l[i] = c(draw.Intn(below), draw.Intn(below))
	}
	return l
}

// TestPA1SumDrawn: sums of drawn amounts are those of whole numbers, part by part, and the list is left as it was.
func TestPA1SumDrawn(t *testing.T) {
	draw := rand.New(rand.NewSource(1))
	for range 3000 {
		l := draws(draw, draw.Intn(9), 1<<(20+draw.Intn(21)))
		before := slices.Clone(l)
		a, b := 0, 0
		for _, x := range l {
			a, b = a+int(real(x)), b+int(imag(x))
		}
		x, err := pair.Sum(l)
		fromParts(t, "Sum", x, err, a, b, api.ErrOver)
		if !slices.EqualFunc(l, before, same) {
			t.Fatalf("Sum changed its argument: %v, not %v", l, before)
		}
	}
	bad := []complex128{1, complex(math.NaN(), 1), 2i}
	pair.Sum(bad)
	if !same(bad[0], 1) || !math.IsNaN(real(bad[1])) || !same(bad[2], 2i) {
		t.Errorf("Sum changed its argument: %v", bad)
	}
}

// TestPA4Order: sums go in any order: of two, and of lists, also where they are too much.
func TestPA4Order(t *testing.T) {
	pairs(func(a, b, m, n int) {
		x, first := pair.Add(c(a, b), c(m, n))
		y, second := pair.Add(c(m, n), c(a, b))
		if !same(x, y) || first != second {
			t.Fatalf("Add of %d/%d and %d/%d: %v, %v, and the other way %v, %v", a, b, m, n, x, first, y, second)
		}
	})
	draw := rand.New(rand.NewSource(2))
	for range 1000 {
		l := draws(draw, draw.Intn(12), 1<<(30+draw.Intn(11)))
		x, first := pair.Sum(l)
		draw.Shuffle(len(l), func(i, j int) { l[i], l[j] = l[j], l[i] })
		y, second := pair.Sum(l)
		if !same(x, y) || first != second {
			t.Fatalf("Sum of %v: %v, %v, and in another order %v, %v", l, x, first, y, second)
		}
		if z, err := oneByOne(l); !same(z, x) || err != first {
			t.Fatalf("Sum of %v: %v, %v, and one by one %v, %v", l, x, first, z, err)
		}
	}
}

// oneByOne is the sum of a list by Add.
func oneByOne(l []complex128) (complex128, error) {
	var all complex128
	for _, x := range l {
		sum, err := pair.Add(all, x)
		if err != nil {
			return 0, err
		}
		all = sum
	}
	return all, nil
}

// TestPA4Undoes: what was added and is taken away again leaves the other one, whichever it is.
func TestPA4Undoes(t *testing.T) {
	undone := 0
	look := func(a, b complex128) {
		x, err := pair.Add(a, b)
		if err != nil {
			return
		}
		undone++
		y, err := pair.Sub(x, b)
		is(t, "Add and Sub", y, err, a)
		y, err = pair.Sub(x, a)
		is(t, "Add and Sub of the other one", y, err, b)
	}
	pairs(func(a, b, m, n int) { look(c(a, b), c(m, n)) })
	draw := rand.New(rand.NewSource(3))
	for range 3000 {
		l := draws(draw, 2, 1<<(1+draw.Intn(40)))
		look(l[0], l[1])
	}
	if undone < 3000 {
		t.Errorf("only %d of them came to an amount", undone)
	}
}

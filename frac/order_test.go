package frac_test

import (
	"math/big"
	"math/rand"
	"testing"

	"refuter/api"
	"refuter/frac"
	"refuter/wide"
)

// checkOrder compares two fractions, and their signs.
func checkOrder(t *testing.T, x, y *big.Rat, a, b frac.Frac) {
	t.Helper()
	if got := frac.Compare(a, b); got != x.Cmp(y) {
		t.Errorf("Compare of %s and %s is %d", name(x), name(y), got)
	}
	if got := frac.Sign(a); got != x.Sign() {
		t.Errorf("Sign of %s is %d", name(x), got)
	}
}

// TestCompare (P4.5) covers all signs and lengths, and equal fractions.
func TestCompare(t *testing.T) {
	for _, all := range [][]*big.Rat{lows(6), edges(), randoms(6, 80, 200), farEdges()} {
		forPairs(t, all, func(x, y *big.Rat, a, b frac.Frac) { checkOrder(t, x, y, a, b) })
		for _, x := range all {
			checkOrder(t, x, x, of(t, x), of(t, x))
		}
	}
}

// fibonacci returns the last three Fibonacci numbers up to a limit.
func fibonacci(limit *big.Int) (a, b, c *big.Int) {
	a, b, c = new(big.Int), one, one
	for {
		next := new(big.Int).Add(b, c)
		if next.Cmp(limit) > 0 {
			return a, b, c
		}
		a, b, c = b, c, next
	}
}

// TestCompareCloseFractions (P4.5) compares fractions that differ as little as
// fractions can, and whose cross products are no wide integers.
func TestCompareCloseFractions(t *testing.T) {
	n := greatest
	low, middle, high := fibonacci(power(8300)) // their quotients agree in all whole parts but the last
	for _, c := range [][2]*big.Rat{
		{ratio(plus(n, -1), n), ratio(plus(n, -2), plus(n, -1))},
		{ratio(n, plus(n, -1)), ratio(plus(n, -1), plus(n, -2))},
		{ratio(big.NewInt(2), n), ratio(big.NewInt(2), plus(n, -2))},
		{ratio(big.NewInt(2), n), ratio(one, power(16383))},
		{ratio(n, big.NewInt(2)), ratio(plus(n, -2), big.NewInt(2))},
		{whole(n), ratio(plus(n, -1), n)},
		{ratio(high, middle), ratio(middle, low)},
		{ratio(power(16383), n), small(1, 2)},
		{ratio(power(16383), plus(n, -2)), small(1, 2)},
	} {
		list := []*big.Rat{c[0], c[1], negated(c[0]), negated(c[1])}
		if fits(times(c[0].Num(), c[1].Denom()), times(c[1].Num(), c[0].Denom())) {
			t.Errorf("the cross products of %s and %s are in range", name(c[0]), name(c[1]))
		}
		forPairs(t, list, func(x, y *big.Rat, a, b frac.Frac) { checkOrder(t, x, y, a, b) })
	}
}

// mediant returns (p + r)/(q + s).
func mediant(a, b frac.Frac) (frac.Frac, api.Errno) {
	above, e := wide.Add(a.Num(), b.Num())
	below, f := wide.Add(a.Den(), b.Den())
	if e != api.OK || f != api.OK {
		return frac.Frac{}, api.ErrLimit
	}
	return frac.Make(above, below)
}

// TestMediants (P4.8): they lie between different fractions.
func TestMediants(t *testing.T) {
	between := 0
	try := func(_, _ *big.Rat, a, b frac.Frac) {
		m, e := mediant(a, b)
		if e != api.OK {
			return
		}
		between++
		if c := frac.Compare(a, b); frac.Compare(a, m) != c || frac.Compare(m, b) != c {
			t.Errorf("%.60v does not lie between %.60v and %.60v", m, a, b)
		}
	}
	forPairs(t, lows(6), try)
	forPairs(t, randoms(7, 40, 200), try)
	forPairs(t, farEdges()[:20], try)
	if between < 2000 {
		t.Errorf("%d mediants: too few to tell", between)
	}
}

// mixed returns a function that returns random ones of many fractions.
func mixed(t *testing.T, seed int64) func() frac.Frac {
	source := rand.New(rand.NewSource(seed))
	all := append(append(lows(4), edges()...), randoms(seed, 40, 90)...)
	return func() frac.Frac { return of(t, all[source.Intn(len(all))]) }
}

// TestTotalOrder (P4.8): one of two fractions is less unless they are equal, and
// Compare is transitive.
func TestTotalOrder(t *testing.T) {
	pick := mixed(t, 8)
	chains := 0
	for range 3000 {
		a, b, c := pick(), pick(), pick()
		if frac.Compare(a, b) != -frac.Compare(b, a) || frac.Compare(a, a) != 0 {
			t.Errorf("Compare of %v and %v depends on their order", a, b)
		}
		if (frac.Compare(a, b) == 0) != (a.String() == b.String()) {
			t.Errorf("Compare of %v and %v is %d", a, b, frac.Compare(a, b))
		}
		if frac.Compare(a, b) <= 0 && frac.Compare(b, c) <= 0 {
			chains++
			if frac.Compare(a, c) > 0 {
				t.Errorf("%v, %v and %v are not in order", a, b, c)
			}
		}
	}
	if chains < 300 {
		t.Errorf("%d chains: too few to tell", chains)
	}
}

// TestOrderIsKept (P4.8): addition of a fraction keeps the order, and so does
// multiplication by a positive one.
func TestOrderIsKept(t *testing.T) {
	pick := mixed(t, 10)
	for range 3000 {
		a, b, c := pick(), pick(), pick()
		order := frac.Compare(a, b)
		left, e := frac.Add(a, c)
		right, f := frac.Add(b, c)
		if e != api.OK || f != api.OK || frac.Compare(left, right) != order {
			t.Errorf("addition of %v does not keep the order of %v and %v", c, a, b)
		}
		left, e = frac.Mul(a, c)
		right, f = frac.Mul(b, c)
		if e != api.OK || f != api.OK || frac.Compare(left, right) != order*frac.Sign(c) {
			t.Errorf("multiplication by %v takes %v and %v to a wrong order", c, a, b)
		}
	}
}

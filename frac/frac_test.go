package frac_test

import (
	"fmt"
	"math"
	"math/big"
	"math/rand"
	"slices"
	"testing"

	"refuter/api"
	"refuter/frac"
	"refuter/wide"
)

// The standard library's fractions are what the results are compared with.
var one = big.NewInt(1)

// power returns 2^n.
func power(n int) *big.Int {
	return new(big.Int).Lsh(one, uint(n))
}

// greatest is 2^16384 - 1.
var greatest = new(big.Int).Sub(power(16384), one)

// plus returns n + d.
func plus(n *big.Int, d int64) *big.Int {
	return new(big.Int).Add(n, big.NewInt(d))
}

// times returns the product of integers.
func times(factors ...*big.Int) *big.Int {
	product := one
	for _, n := range factors {
		product = new(big.Int).Mul(product, n)
	}
	return product
}

// ratio returns n / m.
func ratio(n, m *big.Int) *big.Rat {
	return new(big.Rat).SetFrac(n, m)
}

// small returns n / m.
func small(n, m int64) *big.Rat {
	return big.NewRat(n, m)
}

// whole returns n as a fraction.
func whole(n *big.Int) *big.Rat {
	return new(big.Rat).SetInt(n)
}

// negated returns -x.
func negated(x *big.Rat) *big.Rat {
	return new(big.Rat).Neg(x)
}

// fits tells whether there is a wide integer for each of some integers.
func fits(ns ...*big.Int) bool {
	return !slices.ContainsFunc(ns, func(n *big.Int) bool { return n.CmpAbs(greatest) > 0 })
}

// wideOf returns the wide integer for n.
func wideOf(t *testing.T, n *big.Int) wide.Int {
	t.Helper()
	x, e := wide.Parse(n.String())
	if e != api.OK {
		t.Fatalf("wide.Parse(%.60v) = %d", n, e)
	}
	return x
}

// of returns the fraction for x.
func of(t *testing.T, x *big.Rat) frac.Frac {
	t.Helper()
	a, e := frac.Make(wideOf(t, x.Num()), wideOf(t, x.Denom()))
	check(t, "Make of "+name(x), a, e, x)
	return a
}

// name returns a text of x that is not too long to be printed.
func name(x *big.Rat) string {
	part := func(n *big.Int) string {
		if s := n.String(); len(s) > 50 {
			return fmt.Sprintf("%s..%s (%d bits)", s[:15], s[len(s)-15:], n.BitLen())
		}
		return n.String()
	}
	return part(x.Num()) + "/" + part(x.Denom())
}

// check reports unless a is x, in lowest terms, and there is no error.
func check(t *testing.T, what string, a frac.Frac, e api.Errno, x *big.Rat) {
	t.Helper()
	if e != api.OK || a.Num().String() != x.Num().String() || a.Den().String() != x.Denom().String() {
		t.Errorf("%s = %.60v / %.60v, %d, want %s", what, a.Num(), a.Den(), e, name(x))
	}
}

// isZero tells whether a is 0 by all that can be asked of it.
func isZero(a frac.Frac) bool {
	return a.Num().String() == "0" && a.Den().String() == "1" && a.String() == "0" &&
		frac.Sign(a) == 0 && frac.Compare(a, frac.Frac{}) == 0 && frac.Compare(frac.Frac{}, a) == 0
}

// checkError reports unless there is the wanted error, and unless a is 0.
func checkError(t *testing.T, what string, a frac.Frac, e, want api.Errno) {
	t.Helper()
	if e != want || !isZero(a) {
		t.Errorf("%s = %.60v, %d, want 0 and the error %d", what, a, e, want)
	}
}

// checkLimited reports unless a is x, or 0 with ErrLimit if x is nil.
func checkLimited(t *testing.T, what string, a frac.Frac, e api.Errno, x *big.Rat) {
	t.Helper()
	if x == nil {
		checkError(t, what, a, e, api.ErrLimit)
	} else {
		check(t, what, a, e, x)
	}
}

// inRange returns x, or nil if it is not in range.
func inRange(x *big.Rat) *big.Rat {
	if !fits(x.Num(), x.Denom()) {
		return nil
	}
	return x
}

// random returns an integer of either sign with any number of bits up to a
// greatest one.
func random(source *rand.Rand, most int) *big.Int {
	n := new(big.Int).Rand(source, power(source.Intn(most+1)))
	if source.Intn(2) == 0 {
		n.Neg(n)
	}
	return n
}

// randoms returns random fractions of integers with up to most bits, of which
// many have divisors in common.
func randoms(seed int64, count, most int) []*big.Rat {
	source := rand.New(rand.NewSource(seed))
	var all []*big.Rat
	shared := plus(random(source, most/2), 1)
	for len(all) < count {
		n, m := random(source, most/2), random(source, most/2)
		if source.Intn(2) == 0 {
			n.Mul(n, shared)
		}
		if source.Intn(2) == 0 {
			m.Mul(m, shared)
		}
		if m.Sign() != 0 {
			all = append(all, ratio(n, m))
		}
		if source.Intn(8) == 0 {
			shared = plus(random(source, most/2), 1)
		}
	}
	return all
}

// lows returns all fractions of integers up to a greatest one.
func lows(most int64) []*big.Rat {
	var all []*big.Rat
	for q := int64(1); q <= most; q++ {
		for p := -most; p <= most; p++ {
			if x := small(p, q); x.Denom().Int64() == q {
				all = append(all, x)
			}
		}
	}
	return all
}

// edges are fractions of integers that lie around the ints and the words.
func edges() []*big.Rat {
	var ints []*big.Int
	for _, n := range []int{0, 2, 31, 32, 62, 63, 64, 65, 128} {
		for d := int64(-1); d <= 1; d++ {
			ints = append(ints, plus(power(n), d))
		}
	}
	all := lows(1)
	for i, n := range ints {
		for _, j := range []int{3, 9, i / 2, i - 1, len(ints) - 3} {
			if j >= 0 && ints[j].Sign() > 0 {
				all = append(all, ratio(n, ints[j]), negated(ratio(n, ints[j])))
			}
		}
	}
	return unique(all)
}

// farEdges are fractions of integers around the limits, and where products reach them.
func farEdges() []*big.Rat {
	half := power(8192)
	ints := []*big.Int{one, big.NewInt(3), plus(half, -1), half, plus(half, 1), power(16383), greatest}
	all := lows(1)
	for _, n := range ints {
		for _, m := range ints {
			all = append(all, ratio(n, m))
		}
		all = append(all, negated(ratio(n, one)), negated(ratio(one, n)))
	}
	return unique(all)
}

// unique returns the different ones of a list, in ascending order.
func unique(all []*big.Rat) []*big.Rat {
	slices.SortFunc(all, (*big.Rat).Cmp)
	return slices.CompactFunc(all, func(x, y *big.Rat) bool { return x.Cmp(y) == 0 })
}

// forPairs calls f with all pairs of fractions in a list.
func forPairs(t *testing.T, all []*big.Rat, f func(x, y *big.Rat, a, b frac.Frac)) {
	t.Helper()
	fracs := make([]frac.Frac, len(all))
	for i, x := range all {
		fracs[i] = of(t, x)
	}
	for i, x := range all {
		for j, y := range all {
			f(x, y, fracs[i], fracs[j])
		}
	}
}

// TestZeroValue (P4.1 to P4.6): Frac{} stands for 0 everywhere.
func TestZeroValue(t *testing.T) {
	var zero frac.Frac
	made, e := frac.Of(0, -7)
	check(t, "Of(0, -7)", made, e, new(big.Rat))
	for _, z := range []frac.Frac{zero, made} {
		if !isZero(z) {
			t.Error("0 is not 0")
		}
		p, e := frac.Pow(z, 3)
		check(t, "the power of 0 and 3", p, e, new(big.Rat))
		p, e = frac.Pow(z, 0)
		check(t, "the power of 0 and 0", p, e, small(1, 1))
		for _, x := range edges() {
			a := of(t, x)
			got, e := frac.Add(a, z)
			check(t, name(x)+" plus 0", got, e, x)
			got, e = frac.Add(z, a)
			check(t, "0 plus "+name(x), got, e, x)
			got, e = frac.Sub(a, z)
			check(t, name(x)+" less 0", got, e, x)
			got, e = frac.Sub(z, a)
			check(t, "0 less "+name(x), got, e, negated(x))
			got, e = frac.Mul(a, z)
			check(t, name(x)+" times 0", got, e, new(big.Rat))
			got, e = frac.Mul(z, a)
			check(t, "0 times "+name(x), got, e, new(big.Rat))
			got, e = frac.Div(a, z)
			checkError(t, name(x)+" divided by 0", got, e, api.ErrArg)
			if c := frac.Compare(a, z); c != x.Sign() || frac.Compare(z, a) != -c {
				t.Errorf("Compare of %s and 0 is %d", name(x), c)
			}
		}
	}
}

// TestOf (P4.1) covers all signs, common divisors, and ints at the edges.
func TestOf(t *testing.T) {
	ints := []int{0, 1, -1, 2, -2, 3, 6, -6, 8, -8, 84, 1 << 31, 1 << 32, -1 << 62, 1 << 62, math.MaxInt - 1, math.MaxInt, math.MinInt, math.MinInt + 1}
	for _, p := range ints {
		for _, q := range ints {
			a, e := frac.Of(p, q)
			b, f := frac.Make(wide.From(p), wide.From(q))
			what := fmt.Sprintf("of %d and %d", p, q)
			if q == 0 {
				checkError(t, "Of "+what, a, e, api.ErrArg)
				checkError(t, "Make "+what, b, f, api.ErrArg)
				continue
			}
			check(t, "Of "+what, a, e, small(int64(p), int64(q)))
			check(t, "Make "+what, b, f, small(int64(p), int64(q)))
		}
	}
	for _, c := range []struct {
		p, q int
		text string
	}{
		{6, -8, "-3/4"}, {-6, -8, "3/4"}, {-6, 8, "-3/4"}, {0, 5, "0"}, {0, -5, "0"}, {4, 2, "2"}, {4, -4, "-1"},
		{1, math.MinInt, "-1/9223372036854775808"}, {math.MinInt, -1, "9223372036854775808"},
		{math.MinInt, math.MinInt, "1"}, {math.MinInt, 6, "-4611686018427387904/3"},
	} {
		if a, e := frac.Of(c.p, c.q); e != api.OK || a.String() != c.text {
			t.Errorf("Of(%d, %d) = %v, %d, want %s", c.p, c.q, a, e, c.text)
		}
	}
}

// TestMake (P4.1) covers integers of all lengths, with common divisors.
func TestMake(t *testing.T) {
	source := rand.New(rand.NewSource(1))
	least := new(big.Int).Neg(greatest)
	pairs := [][2]*big.Int{{greatest, least}, {least, greatest}, {least, least}, {greatest, plus(greatest, -1)},
		{plus(least, 1), least}, {one, least}, {least, one}, {power(16383), power(16382)}, {new(big.Int), least}}
	for range 500 {
		divisor := random(source, 300)
		pairs = append(pairs, [2]*big.Int{times(random(source, 300), divisor), times(random(source, 300), divisor)})
	}
	for _, c := range pairs {
		p, q := c[0], c[1]
		a, e := frac.Make(wideOf(t, p), wideOf(t, q))
		if q.Sign() == 0 {
			checkError(t, fmt.Sprintf("Make of %.60v and 0", p), a, e, api.ErrArg)
		} else {
			check(t, "Make of integers", a, e, ratio(p, q))
		}
	}
	a, e := frac.Make(wide.From(5), wide.Int{})
	checkError(t, "Make of 5 and the zero value", a, e, api.ErrArg)
	a, e = frac.Make(wide.Int{}, wide.Int{})
	checkError(t, "Make of the zero value twice", a, e, api.ErrArg)
}

// results returns what all functions return for two fractions.
func results(a, b frac.Frac) []frac.Frac {
	sum, _ := frac.Add(a, b)
	difference, _ := frac.Sub(a, b)
	product, _ := frac.Mul(a, b)
	quotient, _ := frac.Div(a, b)
	third, _ := frac.Pow(a, 3)
	first, _ := frac.Pow(a, 1)
	made, _ := frac.Make(a.Num(), b.Den())
	turned, _ := frac.Make(b.Num(), wide.Neg(a.Den()))
	parsed, _ := frac.Parse(a.String())
	frac.Compare(a, b)
	return []frac.Frac{a, b, sum, difference, product, quotient, third, first, made, turned, parsed}
}

// TestArgumentsStay (P4.1 to P4.6): arguments and results can be used again
// after any calls, and every call returns the same again.
func TestArgumentsStay(t *testing.T) {
	texts := func(list []frac.Frac) []string {
		var all []string
		for _, a := range list {
			all = append(all, a.String())
		}
		return all
	}
	forPairs(t, randoms(2, 20, 300), func(x, y *big.Rat, a, b frac.Frac) {
		first := results(a, b)
		before := texts(first)
		for _, c := range first {
			results(c, b)
			results(a, c)
			results(c, c)
		}
		after, again := texts(first), texts(results(a, b))
		if !slices.Equal(before, after) || !slices.Equal(before, again) {
			t.Errorf("%s and %s: %v, later %v and %v", name(x), name(y), before, after, again)
		}
		check(t, "the first argument, later,", a, api.OK, x)
		check(t, "the second argument, later,", b, api.OK, y)
	})
	p, q := wideOf(t, power(100)), wideOf(t, new(big.Int).Neg(power(90)))
	frac.Make(p, q)
	if p.String() != power(100).String() || q.String() != "-"+power(90).String() {
		t.Error("Make changes its arguments")
	}
}

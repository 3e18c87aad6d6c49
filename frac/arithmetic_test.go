package frac_test

import (
	"fmt"
	"math"
	"math/big"
	"testing"

	"refuter/api"
	"refuter/frac"
)

// sum returns x + y, or nil if one of the integers is out of range that P4.2 names.
func sum(x, y *big.Rat) *big.Rat {
	g := new(big.Int).GCD(nil, nil, x.Denom(), y.Denom())
	left, right := new(big.Int).Quo(x.Denom(), g), new(big.Int).Quo(y.Denom(), g)
	p, r := times(x.Num(), right), times(y.Num(), left)
	if !fits(p, r, new(big.Int).Add(p, r), times(left, y.Denom())) {
		return nil
	}
	return new(big.Rat).Add(x, y)
}

// checkArithmetic compares sums, differences, products and quotients.
func checkArithmetic(t *testing.T, x, y *big.Rat, a, b frac.Frac) {
	t.Helper()
	what := " of " + name(x) + " and " + name(y)
	got, e := frac.Add(a, b)
	checkLimited(t, "Add"+what, got, e, sum(x, y))
	got, e = frac.Sub(a, b)
	checkLimited(t, "Sub"+what, got, e, sum(x, negated(y)))
	got, e = frac.Mul(a, b)
	checkLimited(t, "Mul"+what, got, e, inRange(new(big.Rat).Mul(x, y)))
	got, e = frac.Div(a, b)
	if y.Sign() == 0 {
		checkError(t, "Div"+what, got, e, api.ErrArg)
	} else {
		checkLimited(t, "Div"+what, got, e, inRange(new(big.Rat).Quo(x, y)))
	}
}

// TestArithmetic (P4.2, P4.3) covers all signs, lengths and common divisors.
func TestArithmetic(t *testing.T) {
	for _, all := range [][]*big.Rat{lows(6), edges(), randoms(3, 80, 200), randoms(4, 20, 1500)} {
		forPairs(t, all, func(x, y *big.Rat, a, b frac.Frac) { checkArithmetic(t, x, y, a, b) })
	}
}

// TestArithmeticLimits (P4.2, P4.3) covers results on both sides of the limits.
func TestArithmeticLimits(t *testing.T) {
	inside, outside := 0, 0
	forPairs(t, farEdges(), func(x, y *big.Rat, a, b frac.Frac) {
		if sum(x, y) == nil {
			outside++
		} else {
			inside++
		}
		if (inside+outside)%7 == 0 { // the integers are long
			checkArithmetic(t, x, y, a, b)
		}
	})
	if inside < 100 || outside < 100 {
		t.Errorf("%d sums in range and %d others: too few to tell", inside, outside)
	}
}

// TestDifferences (P4.2): a fraction less itself is 0, however long it is.
func TestDifferences(t *testing.T) {
	for _, x := range append(edges(), farEdges()...) {
		got, e := frac.Sub(of(t, x), of(t, x))
		check(t, "Sub of "+name(x)+" twice", got, e, new(big.Rat))
		got, e = frac.Add(of(t, x), of(t, negated(x)))
		check(t, "Add of "+name(x)+" and its negation", got, e, new(big.Rat))
	}
}

// addition is an addition, and which of the integers that P4.2 names are out of range.
type addition struct {
	what       string
	x, y       *big.Rat
	p, r, s, d bool // of the numerators, their sum and the denominator
}

// check reports unless the integers are out of range that are said to be, and
// unless Add and Sub, both ways round, return ErrLimit if there are any.
func (c addition) check(t *testing.T) {
	t.Helper()
	g := new(big.Int).GCD(nil, nil, c.x.Denom(), c.y.Denom())
	left, right := new(big.Int).Quo(c.x.Denom(), g), new(big.Int).Quo(c.y.Denom(), g)
	p, r := times(c.x.Num(), right), times(c.y.Num(), left)
	s, d := new(big.Int).Add(p, r), times(left, right, g)
	if fits(p) == c.p || fits(r) == c.r || fits(s) == c.s || fits(d) == c.d {
		t.Errorf("%s: in range are %v, %v, %v, %v", c.what, fits(p), fits(r), fits(s), fits(d))
	}
	want := new(big.Rat).Add(c.x, c.y)
	if c.p || c.r || c.s || c.d {
		want = nil
	}
	a, b := of(t, c.x), of(t, c.y)
	got, e := frac.Add(a, b)
	checkLimited(t, c.what, got, e, want)
	got, e = frac.Add(b, a)
	checkLimited(t, c.what+", the other way round", got, e, want)
	got, e = frac.Sub(a, of(t, negated(c.y)))
	checkLimited(t, c.what+", as a difference", got, e, want)
	if want != nil {
		want = negated(want)
	}
	got, e = frac.Sub(of(t, negated(c.x)), b)
	checkLimited(t, c.what+", as a negated difference", got, e, want)
}

// cancelling returns two fractions whose denominators are a power of two times
// an odd number, and whose sum does not have that power of two.
func cancelling(n int, u, v *big.Int) (x, y *big.Rat) {
	two := power(n)
	r := new(big.Int).ModInverse(u, two) // u r + v is a multiple of 2^n, with the next line
	r.Mul(r, v).Neg(r).Mod(r, two)
	for new(big.Int).GCD(nil, nil, r, v).Cmp(one) != 0 {
		r.Add(r, two)
	}
	return ratio(one, times(two, u)), ratio(r, times(two, v))
}

// TestSumLimits (P4.2) brings each of the integers just out of range, one after
// the other, and just into it; sums in lowest terms are in range nearly always.
func TestSumLimits(t *testing.T) {
	half, top := power(8192), power(16383)
	above, below := plus(half, 1), plus(half, -1) // their product is the greatest integer
	next := plus(greatest, -1)
	x, y := cancelling(6000, plus(power(5500), 1), plus(power(5500), -1))
	u, v := cancelling(1384, plus(power(7500), 1), plus(power(7500), -1))
	for _, c := range []addition{
		{what: "2^16383 - 1/2", x: whole(top), y: small(-1, 2), p: true},
		{what: "1/2 - 2^16383", x: small(1, 2), y: negated(whole(top)), r: true},
		{what: "2^16383 - 1 - 1/2", x: whole(plus(top, -1)), y: small(-1, 2)},
		{what: "1 - 2^16383 + 1/2", x: negated(whole(plus(top, -1))), y: small(1, 2)},
		{what: "(2^8192 + 1) - 1/(2^8192 - 1)", x: whole(above), y: ratio(big.NewInt(-1), below)},
		{what: "(2^8192 + 1) + 1/(2^8192 - 1)", x: whole(above), y: ratio(one, below), s: true},
		{what: "1/4 and 3/4, by 2^16382", x: whole(power(16382)), y: ratio(times(big.NewInt(3), power(16382)), one), s: true},
		{what: "2^16383/3 + (2^16383 + 2)/3", x: ratio(top, big.NewInt(3)), y: ratio(plus(top, 2), big.NewInt(3)), s: true},
		{what: "2^16383/3 + (2^16383 - 3)/3", x: ratio(top, big.NewInt(3)), y: ratio(plus(top, -3), big.NewInt(3))},
		{what: "the next but one, and 1", x: whole(next), y: small(1, 1)},
		{what: "the greatest, and 1", x: whole(greatest), y: small(1, 1), s: true},
		{what: "the greatest, and -1", x: whole(greatest), y: small(-1, 1)},
		{what: "the greatest, and the least", x: whole(greatest), y: negated(whole(greatest))},
		{what: "the greatest twice", x: whole(greatest), y: whole(greatest), s: true},
		{what: "1/(2^8192 + 1) + 1/(2^8192 - 1)", x: ratio(one, above), y: ratio(one, below)},
		{what: "1/(2^8192 + 1) + 1/2^8192", x: ratio(one, above), y: ratio(one, half), d: true},
		{what: "1/the greatest, twice", x: ratio(one, greatest), y: ratio(one, greatest)},
		{what: "1/the greatest less 1/the next", x: ratio(one, greatest), y: ratio(big.NewInt(-1), next), d: true},
		{what: "1/2^16383 - 1/2^16383", x: ratio(one, top), y: ratio(big.NewInt(-1), top)},
		{what: "a great denominator that would cancel", x: x, y: y, d: true},
		{what: "a denominator that cancels", x: u, y: v},
		{what: "all of them", x: ratio(greatest, top), y: ratio(top, greatest), p: true, r: true, s: true, d: true},
	} {
		c.check(t)
	}
	for _, c := range [][2]*big.Rat{{x, y}, {ratio(top, big.NewInt(3)), ratio(plus(top, 2), big.NewInt(3))}, {whole(top), small(-1, 2)}} {
		if inRange(new(big.Rat).Add(c[0], c[1])) == nil {
			t.Errorf("%s plus %s is not in range", name(c[0]), name(c[1]))
		}
	}
}

// TestProductLimits (P4.3) covers results in range though the plain products are
// not, and results just out of range.
func TestProductLimits(t *testing.T) {
	half, top, three := power(8192), power(16383), big.NewInt(3)
	above, below := plus(half, 1), plus(half, -1)
	for _, c := range []struct {
		what string
		x, y *big.Rat
		want *big.Rat // nil for ErrLimit
	}{
		{"2^16383/3 times 3/2^16383", ratio(top, three), ratio(three, top), small(1, 1)},
		{"the greatest/2^16383 times 2^16383/the greatest", ratio(greatest, top), ratio(top, greatest), small(1, 1)},
		{"the greatest/2^16383 times 3/the greatest", ratio(greatest, top), ratio(three, greatest), ratio(three, top)},
		{"2^16383/3 times 3/4", ratio(top, three), small(3, 4), whole(power(16381))},
		{"2^16383/3 times 2", ratio(top, three), small(2, 1), nil},
		{"2^16383 times 2/3", whole(top), small(2, 3), nil},
		{"2^16383 times -2", whole(top), small(-2, 1), nil},
		{"(2^8192 + 1)/3 times (2^8192 - 1)/2", ratio(above, three), ratio(below, big.NewInt(2)), ratio(greatest, big.NewInt(6))},
		{"2^8192/3 times 2^8192/5", ratio(half, three), ratio(half, big.NewInt(5)), nil},
		{"3/(2^8192 + 1) times -1/(2^8192 - 1)", ratio(three, above), ratio(big.NewInt(-1), below), ratio(big.NewInt(-3), greatest)},
		{"1/2^8192 squared", ratio(one, half), ratio(one, half), nil},
		{"1/2^16383 times 1/2", ratio(one, top), small(1, 2), nil},
		{"1/2^16383 times 2", ratio(one, top), small(2, 1), ratio(one, power(16382))},
		{"1/the greatest times -1", ratio(one, greatest), small(-1, 1), ratio(big.NewInt(-1), greatest)},
		{"0 times the greatest", new(big.Rat), whole(greatest), new(big.Rat)},
		{"0 times 1/the greatest", new(big.Rat), ratio(one, greatest), new(big.Rat)},
	} {
		a, b := of(t, c.x), of(t, c.y)
		got, e := frac.Mul(a, b)
		checkLimited(t, c.what, got, e, c.want)
		got, e = frac.Mul(b, a)
		checkLimited(t, c.what+", the other way round", got, e, c.want)
		if c.y.Sign() != 0 {
			got, e = frac.Div(a, of(t, new(big.Rat).Inv(c.y)))
			checkLimited(t, c.what+", as a quotient", got, e, c.want)
		}
	}
}

// TestDivByZero (P4.3): no fraction is divided by 0, not even 0.
func TestDivByZero(t *testing.T) {
	for _, x := range append(farEdges(), lows(3)...) {
		got, e := frac.Div(of(t, x), frac.Frac{})
		checkError(t, "Div of "+name(x)+" and 0", got, e, api.ErrArg)
	}
}

// TestPow (P4.4) compares with products.
func TestPow(t *testing.T) {
	for _, x := range append(lows(7), randoms(5, 30, 60)...) {
		a, want := of(t, x), small(1, 1)
		for n := range 40 {
			got, e := frac.Pow(a, n)
			check(t, fmt.Sprintf("Pow of %s and %d", name(x), n), got, e, want)
			want = new(big.Rat).Mul(want, x)
		}
	}
}

// TestPowLimits (P4.4) covers great exponents, negative ones, and results on
// both sides of the limits.
func TestPowLimits(t *testing.T) {
	zero, one, minus := new(big.Rat), small(1, 1), small(-1, 1)
	third := func(n int64) *big.Rat {
		return ratio(new(big.Int).Exp(big.NewInt(3), big.NewInt(n), nil), power(int(n)))
	}
	for _, c := range []struct {
		x    *big.Rat
		n    int
		want *big.Rat // nil for ErrLimit
	}{
		{zero, 1, zero}, {zero, 0, one}, {zero, math.MaxInt, zero}, {zero, math.MaxInt - 1, zero}, {zero, 1 << 62, zero},
		{one, 0, one}, {one, math.MaxInt, one}, {one, 1 << 62, one},
		{minus, 0, one}, {minus, math.MaxInt, minus}, {minus, math.MaxInt - 1, one}, {minus, 1 << 62, one}, {minus, 1<<62 + 1, minus},
		{small(2, 1), 16383, whole(power(16383))}, {small(2, 1), 16384, nil}, {small(2, 1), 16385, nil}, {small(2, 1), math.MaxInt, nil},
		{small(-2, 1), 16383, whole(new(big.Int).Neg(power(16383)))}, {small(-2, 1), 16384, nil},
		{small(1, 2), 16383, ratio(one.Num(), power(16383))}, {small(1, 2), 16384, nil}, {small(1, 2), 1 << 62, nil}, {small(-1, 2), math.MaxInt, nil},
		{small(3, 2), 10337, third(10337)}, {small(3, 2), 10338, nil}, {small(2, 3), 10337, new(big.Rat).Inv(third(10337))}, {small(2, 3), 10338, nil},
		{whole(greatest), 1, whole(greatest)}, {whole(greatest), 2, nil}, {whole(greatest), 0, one},
		{ratio(one.Num(), greatest), 1, ratio(one.Num(), greatest)}, {ratio(one.Num(), greatest), 2, nil},
		{whole(plus(power(8192), -1)), 2, whole(times(plus(power(8192), -1), plus(power(8192), -1)))}, {whole(power(8192)), 2, nil},
		{whole(plus(power(5461), -1)), 3, whole(times(plus(power(5461), -1), plus(power(5461), -1), plus(power(5461), -1)))}, {whole(plus(power(5462), -1)), 3, nil},
	} {
		got, e := frac.Pow(of(t, c.x), c.n)
		checkLimited(t, fmt.Sprintf("Pow of %s and %d", name(c.x), c.n), got, e, c.want)
	}
	for _, n := range []int{-1, -2, -1 << 62, math.MinInt + 1, math.MinInt} {
		for _, x := range []*big.Rat{zero, one, minus, small(2, 3), small(1, 3), whole(greatest)} {
			got, e := frac.Pow(of(t, x), n)
			checkError(t, fmt.Sprintf("Pow of %s and %d", name(x), n), got, e, api.ErrArg)
		}
	}
}

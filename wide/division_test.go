package wide_test

import (
	"math/big"
	"math/rand"
	"testing"

	"refuter/api"
	"refuter/wide"
)

// checkDiv compares the quotient and the rest; m is not 0.
func checkDiv(t *testing.T, n, m *big.Int, x, y wide.Int) {
	t.Helper()
	quotient, rest := new(big.Int).DivMod(n, m, new(big.Int)) // the rest is not negative
	q, r, e := wide.Div(x, y)
	if e != api.OK || q.String() != quotient.String() || r.String() != rest.String() {
		t.Errorf("Div of %s and %s = %.60v, %.60v, %d, want %s and %s", name(n), name(m), q, r, e, name(quotient), name(rest))
	}
}

// TestDivValues (P3.4) names quotients and rests for each combination of signs.
func TestDivValues(t *testing.T) {
	for _, c := range [][4]int{
		{7, 2, 3, 1}, {7, -2, -3, 1}, {-7, 2, -4, 1}, {-7, -2, 4, 1},
		{6, 2, 3, 0}, {6, -2, -3, 0}, {-6, 2, -3, 0}, {-6, -2, 3, 0},
		{2, 7, 0, 2}, {2, -7, 0, 2}, {-2, 7, -1, 5}, {-2, -7, 1, 5},
		{7, 7, 1, 0}, {7, -7, -1, 0}, {-7, 7, -1, 0}, {-7, -7, 1, 0},
		{5, 1, 5, 0}, {5, -1, -5, 0}, {-5, 1, -5, 0}, {-5, -1, 5, 0},
		{0, 5, 0, 0}, {0, -5, 0, 0}, {0, 1, 0, 0}, {0, -1, 0, 0},
	} {
		q, r, e := wide.Div(wide.From(c[0]), wide.From(c[1]))
		quotient, ok := q.Small()
		rest, ok2 := r.Small()
		if e != api.OK || !ok || !ok2 || quotient != c[2] || rest != c[3] {
			t.Errorf("Div of %d and %d = %v, %v, %d, want %d and %d", c[0], c[1], q, r, e, c[2], c[3])
		}
	}
}

// TestDiv (P3.4) covers all signs and lengths of dividends and divisors.
func TestDiv(t *testing.T) {
	check := func(n, m *big.Int, x, y wide.Int) {
		if m.Sign() != 0 {
			checkDiv(t, n, m, x, y)
			return
		}
		q, r, e := wide.Div(x, y)
		checkError(t, "the quotient of "+name(n)+" and 0", q, e, api.ErrArg)
		checkError(t, "the rest of "+name(n)+" and 0", r, e, api.ErrArg)
	}
	forPairs(t, edges(), check)
	forPairs(t, farEdges(), check)
	forPairs(t, randoms(10, 100, 600), check)
}

// TestDivWithoutRest (P3.4) divides products, and their neighbors, by a factor.
func TestDivWithoutRest(t *testing.T) {
	source := rand.New(rand.NewSource(11))
	for range 1000 {
		m := random(source, 300)
		if m.Sign() == 0 {
			continue
		}
		product := new(big.Int).Mul(m, random(source, 300))
		for _, n := range around(product) {
			checkDiv(t, n, m, of(t, n), of(t, m))
		}
	}
}

// ofDigits returns the integer with digits of 32 bits, the highest one first.
func ofDigits(digits ...uint32) *big.Int {
	n := new(big.Int)
	for _, d := range digits {
		n.Lsh(n, 32).Or(n, big.NewInt(int64(d)))
	}
	return n
}

// worstGuess returns by how much a digit of the quotient of two positive
// integers is too great, at most, if it is guessed by the two highest digits of
// what is left and the highest one of the divisor, which is at least 2^31. Of
// the guesses, those that are no digits are replaced by the greatest one.
func worstGuess(n, m *big.Int) int64 {
	const digit = 32
	shift := uint(-m.BitLen() & (digit - 1))
	left, divisor := new(big.Int).Lsh(n, shift), new(big.Int).Lsh(m, shift)
	below := uint(divisor.BitLen() - digit)
	worst := new(big.Int)
	for place := left.BitLen() / digit; place >= 0; place-- {
		part := new(big.Int).Rsh(left, uint(place*digit))
		right := new(big.Int).Div(part, divisor)
		guess := new(big.Int).Div(new(big.Int).Rsh(part, below), new(big.Int).Rsh(divisor, below))
		if guess.BitLen() > digit {
			guess.Sub(power(digit), one)
		}
		if guess.Sub(guess, right).Cmp(worst) > 0 {
			worst = guess
		}
		left.Sub(left, right.Mul(right, divisor).Lsh(right, uint(place*digit)))
	}
	return worst.Int64()
}

// TestGuesses (P3.4) covers divisions in which a digit of the quotient that is
// guessed by the highest digits is too great.
func TestGuesses(t *testing.T) {
	const top, high = 1<<32 - 1, 1 << 31
	for _, c := range []struct {
		n, m  *big.Int
		worst int64
	}{
		{ofDigits(high-1, high, 0), ofDigits(high, 1), 1},
		{ofDigits(high, 0, 0, 3), ofDigits(1<<29, 0, 1), 1}, // seen only in the lowest digit
		{ofDigits(high-1, high, 0, 0), ofDigits(high, 0, 1), 1},
		{ofDigits(high-1, 0, 0), ofDigits(high, top), 2},
		{ofDigits(high-1, 0, 0, 0), ofDigits(high, top, top), 2},
		{ofDigits(high, 0, top-1, 0), ofDigits(high, 0, top), 1}, // the highest digits are equal
		{ofDigits(high, top-1, top, top), ofDigits(high, top, 0), 1},
		{ofDigits(top, top-1, top, top), ofDigits(top, top), 1},
		{ofDigits(high, top-1, 0), ofDigits(high, top), 1},
		{ofDigits(top, top, top, top), ofDigits(1, 0), 0},
		{ofDigits(1, 0, 0, 0), ofDigits(1, 0, 1), 1},
		{ofDigits(top, 0, 0, top), ofDigits(top), 0}, // divisors of one digit
		{ofDigits(1, 0, 0, 0, 0), ofDigits(1), 0},
		{ofDigits(high-1, top, top, top, top), ofDigits(high), 0},
		{ofDigits(3, top, top, 0, 0, 0), ofDigits(3, top, top, 1), 1},
		{ofDigits(5, 6, 7, 0, 0, 0, 0, 5, 6, 6), ofDigits(5, 6, 7), 1}, // zeros within the quotient
		{ofDigits(1, 0, 0, 0, 0, 0, 0, 0, 0, 0), ofDigits(top, top, top, 1), 1},
		{ofDigits(high-1, top, 0, 0, 0, 0, 0, 0), ofDigits(high, top, 0, 1), 2},
		{ofDigits(0x8000, 0, 0xfffe, 0), ofDigits(0x8000, 0, 0xffff), 1},
		{ofDigits(top, top, top, top, top, top), ofDigits(high, top, 1, top), 2},
	} {
		if got := worstGuess(c.n, c.m); got != c.worst {
			t.Errorf("a guess for %s and %s is too great by %d, not by %d", name(c.n), name(c.m), got, c.worst)
		}
		for _, n := range around(c.n) {
			for _, m := range []*big.Int{c.m, new(big.Int).Neg(c.m)} {
				checkDiv(t, n, m, of(t, n), of(t, m))
			}
		}
	}
}

// TestDivOfEdgeDigits (P3.4) divides all integers of up to four digits by all of
// up to three digits that lie at the edges.
func TestDivOfEdgeDigits(t *testing.T) {
	edges := []uint32{0, 1, 1<<31 - 1, 1 << 31, 1<<32 - 1}
	lists := [][]uint32{nil}
	var dividends, divisors []*big.Int
	for length := range 5 {
		var longer [][]uint32
		for _, l := range lists {
			n := ofDigits(l...)
			dividends = append(dividends, n)
			if length < 4 && n.Sign() > 0 {
				divisors = append(divisors, n)
			}
			for _, d := range edges {
				longer = append(longer, append(l[:len(l):len(l)], d))
			}
		}
		lists = longer
	}
	dividends, divisors = unique(dividends), unique(divisors)
	ys := make([]wide.Int, len(divisors))
	for i, m := range divisors {
		ys[i] = of(t, m)
	}
	for _, n := range dividends {
		x := of(t, n)
		for i, m := range divisors {
			checkDiv(t, n, m, x, ys[i])
		}
	}
}

// checkGcd compares the greatest common divisor.
func checkGcd(t *testing.T, n, m *big.Int, x, y wide.Int) {
	t.Helper()
	want := new(big.Int).GCD(nil, nil, new(big.Int).Abs(n), new(big.Int).Abs(m))
	check(t, "Gcd of "+name(n)+" and "+name(m), wide.Gcd(x, y), api.OK, want)
}

// TestGcd (P3.5) covers all signs and lengths, and common divisors of all lengths.
func TestGcd(t *testing.T) {
	for _, c := range [][3]int{
		{0, 0, 0}, {0, 5, 5}, {5, 0, 5}, {0, -5, 5}, {-5, 0, 5}, {-84, 36, 12}, {84, -36, 12},
		{-84, -36, 12}, {36, 84, 12}, {1, 99, 1}, {-1, 0, 1}, {17, 17, 17}, {-17, 17, 17}, {12, 6, 6}, {35, 64, 1},
	} {
		if got := wide.Gcd(wide.From(c[0]), wide.From(c[1])).String(); got != wide.From(c[2]).String() {
			t.Errorf("Gcd of %d and %d is %s, want %d", c[0], c[1], got, c[2])
		}
	}
	check := func(n, m *big.Int, x, y wide.Int) { checkGcd(t, n, m, x, y) }
	forPairs(t, edges(), check)
	forPairs(t, farEdges()[:8], check)
	source := rand.New(rand.NewSource(12))
	for range 1000 {
		n, m := multiples(source)
		check(n, m, of(t, n), of(t, m))
	}
}

// TestGcdOfFibonacciNumbers (P3.5): they take the most divisions of all integers
// of their lengths; these two are the longest neighbors that are in range.
func TestGcdOfFibonacciNumbers(t *testing.T) {
	a, b := new(big.Int), big.NewInt(1)
	for next := big.NewInt(1); inRange(next); next = new(big.Int).Add(a, b) {
		a, b = b, next
	}
	checkGcd(t, a, b, of(t, a), of(t, b))
	checkGcd(t, b, a, of(t, b), of(t, a))
}

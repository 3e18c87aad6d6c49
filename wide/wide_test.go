package wide_test

import (
	"fmt"
	"math"
	"math/big"
	"math/rand"
	"slices"
	"strconv"
	"testing"

	"refuter/api"
	"refuter/wide"
)

// The standard library's integers are what the results are compared with.
var one = big.NewInt(1)

// power returns 2^n.
func power(n int) *big.Int {
	return new(big.Int).Lsh(one, uint(n))
}

// greatest is 2^16384 - 1.
var greatest = new(big.Int).Sub(power(16384), one)

// inRange tells whether there is a wide integer for n.
func inRange(n *big.Int) bool {
	return n.CmpAbs(greatest) <= 0
}

// of returns the wide integer for n.
func of(t *testing.T, n *big.Int) wide.Int {
	t.Helper()
	x, e := wide.Parse(n.String())
	if e != api.OK {
		t.Fatalf("Parse(%s) = %d", name(n), e)
	}
	return x
}

// name returns a text of n that is not too long to be printed.
func name(n *big.Int) string {
	s := n.String()
	if len(s) > 80 {
		return fmt.Sprintf("%s..%s (%d bits)", s[:20], s[len(s)-20:], n.BitLen())
	}
	return s
}

// check reports unless x is n and there is no error.
func check(t *testing.T, what string, x wide.Int, e api.Errno, n *big.Int) {
	t.Helper()
	if got := x.String(); e != api.OK || got != n.String() {
		t.Errorf("%s = %.60s, %d, want %s", what, got, e, name(n))
	}
}

// isZero tells whether x is 0 by all that can be asked of it.
func isZero(x wide.Int) bool {
	n, ok := x.Small()
	return n == 0 && ok && x.String() == "0" && wide.Sign(x) == 0 && wide.Compare(x, wide.Int{}) == 0
}

// checkError reports unless there is the wanted error, and unless x is 0.
func checkError(t *testing.T, what string, x wide.Int, e, want api.Errno) {
	t.Helper()
	if e != want || !isZero(x) {
		t.Errorf("%s = %.60s, %d, want 0 and the error %d", what, x.String(), e, want)
	}
}

// checkLimited reports unless x is n, or 0 with ErrLimit if n is out of range.
func checkLimited(t *testing.T, what string, x wide.Int, e api.Errno, n *big.Int) {
	t.Helper()
	if inRange(n) {
		check(t, what, x, e, n)
	} else {
		checkError(t, what, x, e, api.ErrLimit)
	}
}

// around returns n and its neighbors, and their negations.
func around(ns ...*big.Int) []*big.Int {
	var all []*big.Int
	for _, n := range ns {
		for d := int64(-1); d <= 1; d++ {
			m := new(big.Int).Add(n, big.NewInt(d))
			all = append(all, m, new(big.Int).Neg(m))
		}
	}
	return unique(all)
}

// unique returns the different ones of a list, in ascending order.
func unique(all []*big.Int) []*big.Int {
	slices.SortFunc(all, (*big.Int).Cmp)
	return slices.CompactFunc(all, func(a, b *big.Int) bool { return a.Cmp(b) == 0 })
}

// edges lie on both sides of the boundaries of digits, of ints and of words.
func edges() []*big.Int {
	return around(new(big.Int), big.NewInt(7), big.NewInt(36), power(31), power(32), power(33),
		power(62), power(63), power(64), power(65), power(95), power(96), power(127), power(128), power(200),
		new(big.Int).Sub(power(64), power(32)), new(big.Int).Sub(power(96), power(63)))
}

// farEdges lie around the limits, and where products reach them.
func farEdges() []*big.Int {
	all := around(new(big.Int), power(32), power(8191), power(8192), power(16352), power(16383))
	far := new(big.Int).Sub(greatest, one)
	return unique(append(all, greatest, new(big.Int).Neg(greatest), far, new(big.Int).Neg(far)))
}

// random returns an integer of either sign, with any number of bits up to a
// greatest one, in which long runs of equal bits are as likely as mixed ones.
func random(source *rand.Rand, most int) *big.Int {
	n, value := new(big.Int), uint(0)
	for bit := range source.Intn(most + 1) {
		if source.Intn(1<<source.Intn(6)) == 0 {
			value = 1 - value
		}
		n.SetBit(n, bit, value)
	}
	if source.Intn(2) == 0 {
		n.Neg(n)
	}
	return n
}

// randoms returns random integers of up to most bits.
func randoms(seed int64, count, most int) []*big.Int {
	source := rand.New(rand.NewSource(seed))
	all := make([]*big.Int, count)
	for i := range all {
		all[i] = random(source, most)
	}
	return all
}

// multiples returns two random multiples of a random integer.
func multiples(source *rand.Rand) (n, m *big.Int) {
	divisor := random(source, 250)
	n, m = random(source, 250), random(source, 250)
	return n.Mul(n, divisor), m.Mul(m, divisor)
}

// forPairs calls f with all pairs of integers in a list.
func forPairs(t *testing.T, all []*big.Int, f func(n, m *big.Int, x, y wide.Int)) {
	t.Helper()
	xs := make([]wide.Int, len(all))
	for i, n := range all {
		xs[i] = of(t, n)
	}
	for i, n := range all {
		for j, m := range all {
			f(n, m, xs[i], xs[j])
		}
	}
}

// TestZeroValue (P3.1 to P3.6): Int{} stands for 0 everywhere.
func TestZeroValue(t *testing.T) {
	var zero wide.Int
	if !isZero(zero) || !isZero(wide.From(0)) || !isZero(wide.Neg(zero)) || !isZero(wide.Neg(wide.From(0))) {
		t.Error("the zero value is not 0, or its negation is not")
	}
	if !isZero(wide.Gcd(zero, zero)) || !isZero(wide.Gcd(wide.From(0), zero)) {
		t.Error("Gcd(0, 0) is not 0")
	}
	for _, n := range append(edges(), greatest, new(big.Int).Neg(greatest)) {
		x, what := of(t, n), "0 and "+name(n)
		s, e := wide.Add(x, zero)
		check(t, "the sum of "+what, s, e, n)
		s, e = wide.Add(zero, x)
		check(t, "the sum of "+what, s, e, n)
		s, e = wide.Sub(x, zero)
		check(t, "the integer less 0, of "+what, s, e, n)
		s, e = wide.Sub(zero, x)
		check(t, "the difference of "+what, s, e, new(big.Int).Neg(n))
		p, e := wide.Mul(x, zero)
		check(t, "the product of "+what, p, e, new(big.Int))
		p, e = wide.Mul(zero, x)
		check(t, "the product of "+what, p, e, new(big.Int))
		check(t, "Gcd of "+what, wide.Gcd(zero, x), api.OK, new(big.Int).Abs(n))
		if got := wide.Compare(x, zero); got != n.Sign() || wide.Compare(zero, x) != -got {
			t.Errorf("Compare of %s: %d", what, got)
		}
	}
}

// TestFrom (P3.1) covers ints of all lengths: their texts, and Small.
func TestFrom(t *testing.T) {
	ints := []int{0, 1, -1, 9, 10, -10, math.MaxInt, math.MaxInt - 1, math.MinInt, math.MinInt + 1}
	for shift := range 63 {
		for d := -2; d <= 2; d++ {
			ints = append(ints, 1<<shift+d, -1<<shift+d)
		}
	}
	source := rand.New(rand.NewSource(1))
	for range 1000 {
		ints = append(ints, int(source.Uint64())>>source.Intn(64))
	}
	for _, n := range ints {
		x := wide.From(n)
		if got := x.String(); got != strconv.Itoa(n) {
			t.Errorf("From(%d) is %s", n, got)
		}
		if m, ok := x.Small(); m != n || !ok {
			t.Errorf("Small of %d is %d, %v", n, m, ok)
		}
	}
}

// TestSmall (P3.1) covers integers within and outside of the ints, also such
// ones that an int would be left of if the digits above a word were cut off.
func TestSmall(t *testing.T) {
	all := append(edges(), greatest, new(big.Int).Neg(greatest))
	for shift := range 140 {
		all = append(all, around(power(shift), new(big.Int).Add(power(shift), big.NewInt(5)))...)
	}
	inside, outside := 0, 0
	for _, n := range all {
		want := 0
		if n.IsInt64() {
			want = int(n.Int64())
			inside++
		} else {
			outside++
		}
		if got, ok := of(t, n).Small(); got != want || ok != n.IsInt64() {
			t.Errorf("Small of %s is %d, %v", name(n), got, ok)
		}
	}
	if inside < 100 || outside < 100 {
		t.Errorf("%d ints and %d other integers: too few to tell", inside, outside)
	}
	for _, c := range []struct {
		s  string
		n  int
		ok bool
	}{
		{"9223372036854775807", math.MaxInt, true},
		{"9223372036854775808", 0, false},
		{"-9223372036854775808", math.MinInt, true},
		{"-9223372036854775809", 0, false},
		{"18446744073709551615", 0, false},
		{"18446744073709551616", 0, false},
		{"-18446744073709551616", 0, false},
	} {
		x, e := wide.Parse(c.s)
		if n, ok := x.Small(); e != api.OK || n != c.n || ok != c.ok {
			t.Errorf("Small of %s is %d, %v", c.s, n, ok)
		}
	}
}

// checkArithmetic compares sums, differences and products.
func checkArithmetic(t *testing.T, n, m *big.Int, x, y wide.Int) {
	t.Helper()
	s, e := wide.Add(x, y)
	checkLimited(t, "Add of "+name(n)+" and "+name(m), s, e, new(big.Int).Add(n, m))
	d, e := wide.Sub(x, y)
	checkLimited(t, "Sub of "+name(n)+" and "+name(m), d, e, new(big.Int).Sub(n, m))
	p, e := wide.Mul(x, y)
	checkLimited(t, "Mul of "+name(n)+" and "+name(m), p, e, new(big.Int).Mul(n, m))
}

// TestArithmetic (P3.3) covers all signs and lengths, long carries and borrows.
func TestArithmetic(t *testing.T) {
	forPairs(t, edges(), func(n, m *big.Int, x, y wide.Int) { checkArithmetic(t, n, m, x, y) })
	forPairs(t, randoms(2, 60, 700), func(n, m *big.Int, x, y wide.Int) { checkArithmetic(t, n, m, x, y) })
}

// TestArithmeticLimits (P3.3) covers results on both sides of the limits.
func TestArithmeticLimits(t *testing.T) {
	forPairs(t, farEdges(), func(n, m *big.Int, x, y wide.Int) { checkArithmetic(t, n, m, x, y) })
}

// TestExactLimits (P3.3) names the results at the limits, and just beyond them.
func TestExactLimits(t *testing.T) {
	half := power(8192)
	above, below := new(big.Int).Add(half, one), new(big.Int).Sub(half, one)
	least, minus := new(big.Int).Neg(greatest), big.NewInt(-1)
	next := new(big.Int).Sub(greatest, one)
	for _, c := range []struct {
		what string
		f    func(x, y wide.Int) (wide.Int, api.Errno)
		n, m *big.Int
		want *big.Int // nil for ErrLimit
	}{
		{"the next but one, and 1", wide.Add, next, one, greatest},
		{"the greatest, and 1", wide.Add, greatest, one, nil},
		{"1, and the greatest", wide.Add, one, greatest, nil},
		{"the least, and -1", wide.Add, least, minus, nil},
		{"the least, and 1", wide.Add, least, one, new(big.Int).Neg(next)},
		{"the greatest twice", wide.Add, greatest, greatest, nil},
		{"the greatest and the least", wide.Add, greatest, least, new(big.Int)},
		{"the greatest less -1", wide.Sub, greatest, minus, nil},
		{"the greatest less 1", wide.Sub, greatest, one, next},
		{"the least less 1", wide.Sub, least, one, nil},
		{"the least less the least", wide.Sub, least, least, new(big.Int)},
		{"the least less the greatest", wide.Sub, least, greatest, nil},
		{"0 less the least", wide.Sub, new(big.Int), least, greatest},
		{"(2^8192 + 1) (2^8192 - 1)", wide.Mul, above, below, greatest},
		{"(2^8192 + 1) (1 - 2^8192)", wide.Mul, above, new(big.Int).Neg(below), least},
		{"2^8192 squared", wide.Mul, half, half, nil},
		{"2^8192 times its negation", wide.Mul, half, new(big.Int).Neg(half), nil},
		{"the greatest times -1", wide.Mul, greatest, minus, least},
		{"the least times -1", wide.Mul, least, minus, greatest},
		{"the greatest times 2", wide.Mul, greatest, big.NewInt(2), nil},
		{"the least squared", wide.Mul, least, least, nil},
	} {
		x, e := c.f(of(t, c.n), of(t, c.m))
		if c.want == nil {
			checkError(t, c.what, x, e, api.ErrLimit)
		} else {
			check(t, c.what, x, e, c.want)
		}
	}
}

// TestCompare (P3.6) compares all pairs, and with 0; equal ones are parsed anew.
func TestCompare(t *testing.T) {
	pair := func(n, m *big.Int, x, y wide.Int) {
		if got := wide.Compare(x, y); got != n.Cmp(m) {
			t.Errorf("Compare of %s and %s is %d", name(n), name(m), got)
		}
	}
	for _, all := range [][]*big.Int{edges(), farEdges(), randoms(3, 80, 300)} {
		forPairs(t, all, pair)
		for _, n := range all {
			x := of(t, n)
			pair(n, n, x, of(t, n))
			if got := wide.Sign(x); got != n.Sign() {
				t.Errorf("Sign of %s is %d", name(n), got)
			}
			check(t, "Neg of "+name(n), wide.Neg(x), api.OK, new(big.Int).Neg(n))
			pair(n, n, x, wide.Neg(wide.Neg(x)))
		}
	}
	// A difference in a low digit counts less than one in a high digit.
	low, high := new(big.Int).Add(power(96), big.NewInt(9)), new(big.Int).Add(power(96), power(32))
	pair(low, high, of(t, low), of(t, high))
	pair(high, low, of(t, high), of(t, low))
}

// TestArgumentsStay (P3.1 to P3.6): arguments and results can be used again
// after any calls, and every call returns the same again.
func TestArgumentsStay(t *testing.T) {
	all := func(x, y wide.Int) []wide.Int {
		s, _ := wide.Add(x, y)
		d, _ := wide.Sub(x, y)
		p, _ := wide.Mul(x, y)
		q, r, _ := wide.Div(x, y)
		return []wide.Int{x, y, s, d, p, q, r, wide.Gcd(x, y), wide.Neg(x), wide.Neg(y)}
	}
	texts := func(xs []wide.Int) []string {
		var list []string
		for _, x := range xs {
			x.Small()
			list = append(list, x.String())
		}
		return list
	}
	forPairs(t, randoms(4, 25, 400), func(n, m *big.Int, x, y wide.Int) {
		first := all(x, y)
		before := texts(first)
		for _, result := range first {
			all(result, y)
			all(x, result)
			all(result, result)
		}
		after, again := texts(first), texts(all(x, y))
		if !slices.Equal(before, after) || !slices.Equal(before, again) {
			t.Errorf("%s and %s: %v, later %v and %v", name(n), name(m), before, after, again)
		}
		if x.String() != n.String() || y.String() != m.String() {
			t.Errorf("%s and %s are now %v and %v", name(n), name(m), x, y)
		}
	})
}

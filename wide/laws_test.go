package wide_test

import (
	"math/big"
	"math/rand"
	"testing"

	"refuter/api"
	"refuter/wide"
)

// calculation calculates as long as everything is in range.
type calculation struct{ failed bool }

// add returns x + y.
func (c *calculation) add(x, y wide.Int) wide.Int { return c.keep(wide.Add(x, y)) }

// sub returns x - y.
func (c *calculation) sub(x, y wide.Int) wide.Int { return c.keep(wide.Sub(x, y)) }

// mul returns x * y.
func (c *calculation) mul(x, y wide.Int) wide.Int { return c.keep(wide.Mul(x, y)) }

// keep remembers an error.
func (c *calculation) keep(x wide.Int, e api.Errno) wide.Int {
	c.failed = c.failed || e != api.OK
	return x
}

// checkLaws reports each law of P3.7 that does not hold though all results are
// in range, and returns how many held.
func checkLaws(t *testing.T, x, y, z wide.Int) int {
	t.Helper()
	held := 0
	for _, law := range []struct {
		what  string
		sides func(c *calculation) (wide.Int, wide.Int)
	}{
		{"x + y = y + x", func(c *calculation) (wide.Int, wide.Int) { return c.add(x, y), c.add(y, x) }},
		{"x y = y x", func(c *calculation) (wide.Int, wide.Int) { return c.mul(x, y), c.mul(y, x) }},
		{"(x + y) + z = x + (y + z)", func(c *calculation) (wide.Int, wide.Int) {
			return c.add(c.add(x, y), z), c.add(x, c.add(y, z))
		}},
		{"(x y) z = x (y z)", func(c *calculation) (wide.Int, wide.Int) {
			return c.mul(c.mul(x, y), z), c.mul(x, c.mul(y, z))
		}},
		{"x (y + z) = x y + x z", func(c *calculation) (wide.Int, wide.Int) {
			return c.mul(x, c.add(y, z)), c.add(c.mul(x, y), c.mul(x, z))
		}},
		{"x + y - y = x", func(c *calculation) (wide.Int, wide.Int) { return c.sub(c.add(x, y), y), x }},
		{"x - y = -(y - x)", func(c *calculation) (wide.Int, wide.Int) { return c.sub(x, y), wide.Neg(c.sub(y, x)) }},
	} {
		var c calculation
		left, right := law.sides(&c)
		if c.failed {
			continue
		}
		held++
		if wide.Compare(left, right) != 0 || left.String() != right.String() {
			t.Errorf("%s does not hold for %.60v, %.60v, %.60v", law.what, x, y, z)
		}
	}
	return held
}

// TestRing (P3.7) tries triples with results in range, and on both sides of it.
func TestRing(t *testing.T) {
	source := rand.New(rand.NewSource(8))
	pick := func(from []*big.Int) wide.Int { return of(t, from[source.Intn(len(from))]) }
	near, far := edges(), farEdges()
	all := 0
	for range 1000 {
		all += checkLaws(t, pick(near), pick(near), pick(near))
		all += checkLaws(t, of(t, random(source, 500)), of(t, random(source, 500)), of(t, random(source, 500)))
	}
	if all != 14000 {
		t.Errorf("%d laws could be tried of 14000", all)
	}
	some := 0
	for range 60 {
		some += checkLaws(t, pick(far), pick(far), pick(far))
	}
	if some < 100 || some > 400 {
		t.Errorf("near the limits, %d laws could be tried: too few or too many to tell", some)
	}
}

// TestDifferences (P3.7): a difference is 0 exactly if Compare is 0.
func TestDifferences(t *testing.T) {
	check := func(n, m *big.Int, x, y wide.Int) {
		d, e := wide.Sub(x, y)
		if e == api.OK && isZero(d) != (wide.Compare(x, y) == 0) {
			t.Errorf("%s less %s is %.60v, but Compare is %d", name(n), name(m), d, wide.Compare(x, y))
		}
	}
	forPairs(t, edges(), check)
	forPairs(t, farEdges(), check)
}

// checkDivisors reports what does not hold of P3.8.
func checkDivisors(t *testing.T, n, m *big.Int, x, y wide.Int) {
	t.Helper()
	g := wide.Gcd(x, y)
	if isZero(g) {
		if n.Sign() != 0 || m.Sign() != 0 {
			t.Errorf("Gcd of %s and %s is 0", name(n), name(m))
		}
		return
	}
	a, r, e := wide.Div(x, g)
	b, s, f := wide.Div(y, g)
	if e != api.OK || f != api.OK || !isZero(r) || !isZero(s) {
		t.Errorf("Gcd of %s and %s is %.60v, which does not divide them", name(n), name(m), g)
	}
	if left := wide.Gcd(a, b); left.String() != "1" {
		t.Errorf("%s and %s, divided by %.60v, have the common divisor %.60v", name(n), name(m), g, left)
	}
	if wide.Compare(g, wide.Gcd(y, x)) != 0 {
		t.Errorf("Gcd of %s and %s depends on their order", name(n), name(m))
	}
	if m.Sign() == 0 {
		return
	}
	if _, rest, _ := wide.Div(x, y); wide.Compare(g, wide.Gcd(y, rest)) != 0 {
		t.Errorf("Gcd of %s and %s is not that of the second one and the rest", name(n), name(m))
	}
}

// TestDivisors (P3.8) covers integers with common divisors of all lengths.
func TestDivisors(t *testing.T) {
	check := func(n, m *big.Int, x, y wide.Int) { checkDivisors(t, n, m, x, y) }
	forPairs(t, edges(), check)
	source := rand.New(rand.NewSource(9))
	for range 400 {
		n, m := multiples(source)
		check(n, m, of(t, n), of(t, m))
	}
	forPairs(t, []*big.Int{new(big.Int), greatest, new(big.Int).Neg(power(16383)), power(8192)}, check)
}

package frac_test

import (
	"math/big"
	"math/rand"
	"testing"

	"refuter/api"
	"refuter/frac"
	"refuter/wide"
)

// calculation calculates as long as everything is returned.
type calculation struct{ failed bool }

// add returns a + b.
func (c *calculation) add(a, b frac.Frac) frac.Frac { return c.keep(frac.Add(a, b)) }

// sub returns a - b.
func (c *calculation) sub(a, b frac.Frac) frac.Frac { return c.keep(frac.Sub(a, b)) }

// mul returns a * b.
func (c *calculation) mul(a, b frac.Frac) frac.Frac { return c.keep(frac.Mul(a, b)) }

// div returns a / b, and a if b is 0.
func (c *calculation) div(a, b frac.Frac) frac.Frac {
	if frac.Sign(b) == 0 {
		c.failed = true
		return a
	}
	return c.keep(frac.Div(a, b))
}

// pow returns the power of a and n.
func (c *calculation) pow(a frac.Frac, n int) frac.Frac { return c.keep(frac.Pow(a, n)) }

// keep remembers an error.
func (c *calculation) keep(a frac.Frac, e api.Errno) frac.Frac {
	c.failed = c.failed || e != api.OK
	return a
}

// law is an equation between two calculations.
type law struct {
	what  string
	sides func(c *calculation) (frac.Frac, frac.Frac)
}

// holding reports each law that does not hold though all results are returned,
// and tells how many hold.
func holding(t *testing.T, laws []law, of ...frac.Frac) int {
	t.Helper()
	held := 0
	for _, l := range laws {
		var c calculation
		left, right := l.sides(&c)
		if c.failed {
			continue
		}
		held++
		if frac.Compare(left, right) != 0 || left.String() != right.String() {
			t.Errorf("%s does not hold for %.60v", l.what, of)
		}
	}
	return held
}

// field returns the laws of P4.7.
func field(x, y, z frac.Frac) []law {
	type sides = func(c *calculation) (frac.Frac, frac.Frac)
	var list []law
	add := func(what string, f sides) { list = append(list, law{what, f}) }
	add("x + y = y + x", func(c *calculation) (frac.Frac, frac.Frac) { return c.add(x, y), c.add(y, x) })
	add("x y = y x", func(c *calculation) (frac.Frac, frac.Frac) { return c.mul(x, y), c.mul(y, x) })
	add("(x + y) + z = x + (y + z)", func(c *calculation) (frac.Frac, frac.Frac) {
		return c.add(c.add(x, y), z), c.add(x, c.add(y, z))
	})
	add("(x y) z = x (y z)", func(c *calculation) (frac.Frac, frac.Frac) {
		return c.mul(c.mul(x, y), z), c.mul(x, c.mul(y, z))
	})
	add("x (y + z) = x y + x z", func(c *calculation) (frac.Frac, frac.Frac) {
		return c.mul(x, c.add(y, z)), c.add(c.mul(x, y), c.mul(x, z))
	})
	add("x + y - y = x", func(c *calculation) (frac.Frac, frac.Frac) { return c.sub(c.add(x, y), y), x })
	add("x y / y = x", func(c *calculation) (frac.Frac, frac.Frac) { return c.div(c.mul(x, y), y), x })
	return list
}

// TestField (P4.7) tries triples of fractions, also with results out of range.
func TestField(t *testing.T) {
	source := rand.New(rand.NewSource(13))
	try := func(all []*big.Rat, count int) int {
		pick := func() frac.Frac { return of(t, all[source.Intn(len(all))]) }
		held := 0
		for range count {
			x, y, z := pick(), pick(), pick()
			held += holding(t, field(x, y, z), x, y, z)
		}
		return held
	}
	if held := try(append(append(lows(5), edges()...), randoms(14, 60, 200)...), 1500); held < 10000 {
		t.Errorf("%d laws could be tried of 10500", held)
	}
	if held := try(farEdges(), 20); held < 20 || held > 120 {
		t.Errorf("near the limits, %d laws could be tried: too few or too many to tell", held)
	}
}

// TestPowers (P4.9): sums of exponents are products of powers.
func TestPowers(t *testing.T) {
	powers := func(a frac.Frac, m, n int) []law {
		return []law{{"the law of powers", func(c *calculation) (frac.Frac, frac.Frac) {
			return c.pow(a, m+n), c.mul(c.pow(a, m), c.pow(a, n))
		}}}
	}
	held := 0
	for _, x := range append(lows(4), randoms(15, 20, 100)...) {
		a := of(t, x)
		for _, m := range []int{0, 1, 2, 7, 20, 33} {
			for n := range 12 {
				held += holding(t, powers(a, m, n), a)
			}
		}
	}
	for _, x := range lows(1) {
		held += holding(t, powers(of(t, x), 1<<61, 1<<61+1), of(t, x))
	}
	two := of(t, small(2, 3))
	if held < 3000 || holding(t, powers(two, 6000, 4000), two) != 1 || holding(t, powers(two, 6000, 6000), two) != 0 {
		t.Errorf("%d laws could be tried", held)
	}
}

// TestEquality (P4.10): fractions are equal exactly if their texts are, and
// exactly if their numerators and denominators are.
func TestEquality(t *testing.T) {
	check := func(x, y *big.Rat, a, b frac.Frac) {
		equal := x.Cmp(y) == 0
		parts := wide.Compare(a.Num(), b.Num()) == 0 && wide.Compare(a.Den(), b.Den()) == 0
		if (frac.Compare(a, b) == 0) != equal || (a.String() == b.String()) != equal || parts != equal {
			t.Errorf("%v and %v: Compare is %d, and the parts are equal: %v", a, b, frac.Compare(a, b), parts)
		}
	}
	forPairs(t, edges(), check)
	// The same fractions come out of calculations, in which they may be stored
	// in another way.
	forPairs(t, lows(5), func(x, y *big.Rat, a, b frac.Frac) {
		for _, pair := range [][2]*big.Rat{{x, small(1, 1)}, {new(big.Rat), x}, {small(2, 1), new(big.Rat).Mul(x, small(1, 2))}} {
			product, _ := frac.Mul(of(t, pair[0]), of(t, pair[1]))
			check(new(big.Rat).Mul(pair[0], pair[1]), y, product, b)
			sum, _ := frac.Add(of(t, pair[0]), of(t, pair[1]))
			check(new(big.Rat).Add(pair[0], pair[1]), y, sum, b)
		}
	})
}

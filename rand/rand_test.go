package rand_test

import (
	"math"
	"math/big"
	"testing"

	"refuter/api"
	"refuter/rand"
	"refuter/wide"
)

// Edge seeds and indices: small ones, and both ends of the ranges.
var (
	seeds   = []uint64{0, 1, 7, 1 << 32, 1<<63 - 1, 1 << 63, math.MaxUint64}
	labels  = []string{"", "a", "order", "eight...", "nine.....", "\xff\x00"}
	indices = []int{0, 1, 5, -1, -2, 1 << 40, math.MaxInt, math.MaxInt - 1, math.MaxInt - 60, math.MinInt, math.MinInt + 1}
)

// one is 1.
var one = big.NewInt(1)

// power returns 2^n.
func power(n uint) *big.Int {
	return new(big.Int).Lsh(one, n)
}

// plus returns x + n.
func plus(x *big.Int, n int64) *big.Int {
	return new(big.Int).Add(x, big.NewInt(n))
}

// of returns an integer of package wide.
func of(t *testing.T, x *big.Int) wide.Int {
	t.Helper()
	n, e := wide.Parse(x.String())
	if e != api.OK {
		t.Fatalf("%.60v is not in range: %d", x, e)
	}
	return n
}

// mix mixes a word into a state, as chapter 1 defines it.
func mix(state, word uint64) uint64 {
	m := (state ^ word) * 0x9E3779B97F4A7C15
	return m ^ m>>32
}

// mixed returns the state xor the word that were mixed to a state.
func mixed(state uint64) uint64 {
	const multiplier = 0x9E3779B97F4A7C15
	inverse := uint64(1)
	for range 6 { // each step doubles the number of bits that are right
		inverse *= 2 - multiplier*inverse
	}
	return (state ^ state>>32) * inverse
}

// seedFor returns the seed for which the word at an index, with the label "a",
// is the given one.
func seedFor(t *testing.T, i int, word uint64) uint64 {
	t.Helper()
	start := mix(mix(mix(0, 'a'), 1), 2)
	seed := start ^ mixed(uint64(i)^mixed(mixed(word)))
	if got := rand.Word(seed, "a", i); got != word {
		t.Fatalf("the word %d at %d is not found: %d", word, i, got)
	}
	return seed
}

// byDefinition returns the result of Below or Big, and the next index, for n of
// at least 1.
func byDefinition(seed uint64, label string, i int, n *big.Int) (*big.Int, int) {
	k := uint(0)
	for n.Cmp(power(64*k)) > 0 {
		k++
	}
	multiple := new(big.Int).Div(power(64*k), n)
	multiple.Mul(multiple, n)
	x := new(big.Int)
	for range 64 {
		x.SetInt64(0)
		for j := range k {
			word := new(big.Int).SetUint64(rand.Word(seed, label, i))
			x.Add(x, word.Lsh(word, 64*j))
			i++
		}
		if x.Cmp(multiple) < 0 {
			break
		}
	}
	return x.Mod(x, n), i
}

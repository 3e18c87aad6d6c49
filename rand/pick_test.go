package rand_test

import (
	"math"
	"slices"
	"testing"

	"refuter/api"
	"refuter/rand"
)

// weightsOf returns n equal weights.
func weightsOf(n, weight int) []int {
	list := make([]int, n)
	for k := range list {
		list[k] = weight
	}
	return list
}

// indexOf returns the least index such that the sum of the weights up to it is
// greater than r.
func indexOf(weights []int, r int) int {
	for k := range weights {
		sum := 0
		for _, weight := range weights[:k+1] {
			sum += weight
		}
		if sum > r {
			return k
		}
	}
	return -1
}

// TestPickPlaces (P5.4) chooses the number below the sum, for weights of 0 ahead,
// behind and between.
func TestPickPlaces(t *testing.T) {
	const most = 1 << 40
	for _, c := range []struct {
		weights []int
		r       []int
		want    []int
	}{
		{[]int{0, 3, 0}, []int{0, 1, 2}, []int{1, 1, 1}},
		{[]int{1}, []int{0}, []int{0}},
		{[]int{5}, []int{0, 4}, []int{0, 0}},
		{[]int{2, 1}, []int{0, 1, 2}, []int{0, 0, 1}},
		{[]int{1, 2}, []int{0, 1, 2}, []int{0, 1, 1}},
		{[]int{0, 2, 0, 0, 1, 3, 0, 0}, []int{0, 1, 2, 3, 4, 5}, []int{1, 1, 4, 5, 5, 5}},
		{[]int{0, 0, 0, 1}, []int{0}, []int{3}},
		{[]int{1, 0, 0, 0}, []int{0}, []int{0}},
		{[]int{most, 1, most}, []int{0, most - 1, most, most + 1, 2 * most}, []int{0, 0, 1, 2, 2}},
		{weightsOf(4096, most), []int{0, most - 1, most, 4095*most - 1, 4095 * most, 4096*most - 1}, []int{0, 0, 1, 4094, 4095, 4095}},
		{weightsOf(4096, 1), []int{0, 1, 2047, 2048, 4094, 4095}, []int{0, 1, 2047, 2048, 4094, 4095}},
	} {
		for j, r := range c.r {
			for _, i := range []int{0, -1, math.MaxInt} {
				got, next, e := rand.Pick(seedFor(t, i, uint64(r)), "a", i, c.weights)
				if got != c.want[j] || next != i+1 || e != api.OK {
					t.Errorf("Pick of %d in %.60v is %d, %d, %d, want %d", r, c.weights[:min(8, len(c.weights))], got, next, e, c.want[j])
				}
			}
		}
	}
}

// TestPickValues (P5.4) compares with an index that was calculated from the
// definition by another program.
func TestPickValues(t *testing.T) {
	weights := []int{0, 0, 1 << 40, 5, 1 << 40, 0}
	if got, next, e := rand.Pick(math.MaxUint64, "", math.MaxInt, weights); got != 2 || next != math.MinInt || e != api.OK {
		t.Errorf("Pick = %d, %d, %d", got, next, e)
	}
}

// TestPick (P5.4, P5.8) compares with the definition, for lists of small weights.
func TestPick(t *testing.T) {
	for seed := range uint64(300) {
		weights := make([]int, 1+seed%9)
		sum := 0
		for k := range weights {
			weights[k], _ = rand.Below(seed, "weights", k, 4)
			sum += weights[k]
		}
		for _, i := range indices {
			got, next, e := rand.Pick(seed, "p", i, weights)
			if sum == 0 {
				if got != 0 || next != i || e != api.ErrArg {
					t.Errorf("Pick(%d, p, %d, %v) = %d, %d, %d", seed, i, weights, got, next, e)
				}
				continue
			}
			r, end := rand.Below(seed, "p", i, sum)
			if got != indexOf(weights, r) || next != end || e != api.OK || weights[got] == 0 {
				t.Errorf("Pick(%d, p, %d, %v) = %d, %d, %d, want %d, %d", seed, i, weights, got, next, e, indexOf(weights, r), end)
			}
		}
	}
}

// TestPickRefuses (P5.4): the index is that behind the words that Below refuses.
func TestPickRefuses(t *testing.T) {
	for _, i := range []int{0, math.MaxInt} {
		seed := seedFor(t, i, math.MaxUint64)
		got, next, e := rand.Pick(seed, "a", i, []int{1, 1, 1})
		if r, end := rand.Below(seed, "a", i+1, 3); got != r || next != end || e != api.OK || next != i+2 {
			t.Errorf("Pick at %d is %d, %d, %d, want %d, %d", i, got, next, e, r, end)
		}
	}
}

// TestPickErrors (P5.4) tells with each error the index that was given.
func TestPickErrors(t *testing.T) {
	const most = 1 << 40
	wrong := weightsOf(4096, 1)
	wrong[4095] = -1
	for j, weights := range [][]int{
		nil,
		{},
		{0},
		{0, 0, 0},
		{-1},
		{-1, 2},
		{2, -1},
		{1, -1, 1},
		{3, math.MinInt},
		{most + 1},
		{1, most + 1},
		{most + 1, 1},
		{math.MaxInt},
		{math.MaxInt, math.MaxInt},
		{math.MaxInt, math.MinInt, 5},
		weightsOf(4096, 0),
		weightsOf(4097, 1),
		weightsOf(4097, 0),
		append([]int{1}, make([]int, 4096)...),
		wrong,
	} {
		for _, i := range indices {
			if got, next, e := rand.Pick(3, "c", i, weights); got != 0 || next != i || e != api.ErrArg {
				t.Errorf("case %d at %d: Pick = %d, %d, %d", j, i, got, next, e)
			}
		}
	}
}

// TestPickAgreesWithBelow (P5.10), for all numbers of equal weights of 1.
func TestPickAgreesWithBelow(t *testing.T) {
	for n := 1; n <= api.MaxNodes; n++ {
		weights := weightsOf(n, 1)
		for _, i := range []int{0, n, -n, math.MaxInt} {
			got, next, e := rand.Pick(4, "ones", i, weights)
			if want, end := rand.Below(4, "ones", i, n); got != want || next != end || e != api.OK {
				t.Errorf("Pick of %d weights at %d is %d, %d, %d, want %d, %d", n, i, got, next, e, want, end)
			}
		}
	}
}

// TestPickArgumentsStay (P5.4): weights can be used again.
func TestPickArgumentsStay(t *testing.T) {
	weights := []int{4, 0, 1, 1 << 40, 7}
	before := slices.Clone(weights)
	for i := range 100 {
		rand.Pick(1, "s", i, weights)
	}
	rand.Pick(1, "s", 0, weights[:2])
	if !slices.Equal(weights, before) {
		t.Errorf("the weights are now %v", weights)
	}
}

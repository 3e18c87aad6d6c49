package rand_test

import (
	"math"
	"slices"
	"testing"

	"refuter/api"
	"refuter/hash"
	"refuter/rand"
)

// place is Order or Place.
type place = func(seed uint64, n, k int) (int, api.Errno)

// all returns the results for all k.
func all(t *testing.T, f place, seed uint64, n int) []int {
	t.Helper()
	list := make([]int, n)
	for k := range list {
		x, e := f(seed, n, k)
		if e != api.OK {
			t.Fatalf("seed %d, %d of %d: error %d", seed, k, n, e)
		}
		list[k] = x
	}
	return list
}

// TestOrderValues (P5.5, P5.6) compares with orders that were calculated from the
// definition by another program.
func TestOrderValues(t *testing.T) {
	for _, c := range []struct {
		seed          uint64
		order, places []int
	}{
		{0, []int{0}, []int{0}},
		{1, []int{1, 0}, []int{1, 0}},
		{1, []int{1, 0, 2}, []int{1, 0, 2}},
		{0, []int{3, 0, 1, 2}, []int{1, 2, 3, 0}},
		{0, []int{0, 1, 2, 3, 4}, []int{0, 1, 2, 3, 4}},
		{1 << 63, []int{2, 8, 11, 0, 7, 5, 3, 6, 1, 10, 9, 4}, []int{3, 8, 0, 6, 11, 5, 7, 4, 1, 10, 9, 2}},
		{7, []int{0, 14, 5, 6, 2, 1, 7, 11, 9, 10, 3, 13, 4, 8, 12, 15}, []int{0, 5, 4, 10, 12, 2, 3, 6, 13, 8, 9, 7, 14, 11, 1, 15}},
		{math.MaxUint64, []int{8, 4, 16, 3, 6, 1, 2, 0, 10, 7, 11, 9, 12, 15, 14, 5, 13}, []int{7, 5, 6, 3, 1, 15, 4, 9, 0, 11, 8, 10, 12, 16, 14, 13, 2}},
	} {
		n := len(c.order)
		if got := all(t, rand.Order, c.seed, n); !slices.Equal(got, c.order) {
			t.Errorf("the order of %d with the seed %d is %v, want %v", n, c.seed, got, c.order)
		}
		if got := all(t, rand.Place, c.seed, n); !slices.Equal(got, c.places) {
			t.Errorf("the places of %d with the seed %d are %v, want %v", n, c.seed, got, c.places)
		}
		if got, e := rand.Shuffle(c.seed, n); e != api.OK || !slices.Equal(got, c.places) {
			t.Errorf("Shuffle(%d, %d) = %v, %d, want %v", c.seed, n, got, e, c.places)
		}
	}
	for _, c := range []struct {
		seed       uint64
		n, k, want int
	}{
		{1, 1 << 40, 0, 127323865326},
		{1, 1 << 40, 1<<40 - 1, 73006012494},
		{2, 1<<40 - 1, 12345, 380618459750},
		{3, 1<<38 + 1, 1 << 38, 109694988824},
		{3, 1 << 38, 1<<38 - 1, 140754051670},
		{math.MaxUint64, 1_000_000_000_000, 999_999_999_999, 696216216389},
	} {
		if got, e := rand.Order(c.seed, c.n, c.k); got != c.want || e != api.OK {
			t.Errorf("Order(%d, %d, %d) = %d, %d, want %d", c.seed, c.n, c.k, got, e, c.want)
		}
		if got, e := rand.Place(c.seed, c.n, c.want); got != c.k || e != api.OK {
			t.Errorf("Place(%d, %d, %d) = %d, %d, want %d", c.seed, c.n, c.want, got, e, c.k)
		}
	}
}

// orderByDefinition returns the place of k among n numbers, which h is for.
func orderByDefinition(seed uint64, h, n, k int) int {
	for x := k; ; {
		left, right := x>>h, x&(1<<h-1)
		for r := range 4 {
			f := hash.Sum("order", int(seed), r, right) % (1 << h)
			left, right = right, left^int(f)
		}
		if x = left<<h + right; x < n {
			return x
		}
	}
}

// samples returns up to 40 of the numbers below n, with both ends.
func samples(n int) []int {
	list := []int{0, n - 1, n / 2}
	for i := range 37 {
		k, _ := rand.Below(1, "samples", i, n)
		list = append(list, k)
	}
	return list
}

// TestOrder (P5.5, P5.6) compares with the definition, for n at and next to
// powers of four.
func TestOrder(t *testing.T) {
	for h := 1; h <= 20; h++ {
		least, greatest := 1<<(2*h-2)+1, 1<<(2*h)
		list := []int{least, least + 1, greatest - 1, greatest}
		if h == 1 {
			list = append(list, 1)
		}
		for _, n := range list {
			for _, seed := range seeds {
				for _, k := range samples(n) {
					want := orderByDefinition(seed, h, n, k)
					if got, e := rand.Order(seed, n, k); got != want || e != api.OK {
						t.Errorf("Order(%d, %d, %d) = %d, %d, want %d", seed, n, k, got, e, want)
					}
					if got, e := rand.Place(seed, n, want); got != k || e != api.OK {
						t.Errorf("Place(%d, %d, %d) = %d, %d, want %d", seed, n, want, got, e, k)
					}
					if x, e := rand.Place(seed, n, k); e != api.OK || orderByDefinition(seed, h, n, x) != k {
						t.Errorf("Place(%d, %d, %d) = %d, %d, whose order is another", seed, n, k, x, e)
					}
				}
			}
		}
	}
}

// TestPermutations (P5.9) goes through all n up to a few hundred.
func TestPermutations(t *testing.T) {
	for n := 1; n <= 260; n++ {
		for _, seed := range seeds {
			order, places := all(t, rand.Order, seed, n), all(t, rand.Place, seed, n)
			seen := make([]bool, n)
			for k, x := range order {
				if x < 0 || x >= n || seen[x] || places[x] != k {
					t.Fatalf("the order of %d with the seed %d is %v, its places are %v", n, seed, order, places)
				}
				seen[x] = true
			}
		}
	}
}

// TestOrdersDiffer (P5.5): another seed, or another n, gives another order.
func TestOrdersDiffer(t *testing.T) {
	orders := map[string]bool{}
	for seed := range uint64(50) {
		var bytes []byte
		for _, x := range all(t, rand.Order, seed, 200) {
			bytes = append(bytes, byte(x))
		}
		orders[string(bytes)] = true
	}
	if len(orders) != 50 {
		t.Errorf("50 seeds have %d orders", len(orders))
	}
	if slices.Equal(all(t, rand.Order, 5, 64), all(t, rand.Order, 5, 65)[:64]) {
		t.Error("64 and 65 have the same order")
	}
}

// TestShuffle (P5.6) covers the limits of n, and all lengths between.
func TestShuffle(t *testing.T) {
	for _, n := range []int{1, 2, 3, 4, 5, 15, 16, 17, 63, 64, 65, 255, 256, 257, 1000, 1023, 1024} {
		for _, seed := range seeds {
			got, e := rand.Shuffle(seed, n)
			if e != api.OK || !slices.Equal(got, all(t, rand.Place, seed, n)) {
				t.Errorf("Shuffle(%d, %d) = %v, %d", seed, n, got, e)
			}
			clear(got) // what is done with a result does not matter later
			if again, _ := rand.Shuffle(seed, n); !slices.Equal(again, all(t, rand.Place, seed, n)) {
				t.Errorf("Shuffle(%d, %d), again, is %v", seed, n, again)
			}
		}
	}
}

// TestOrderErrors (P5.7) covers both errors at the limits, and ErrArg ahead of
// ErrRange.
func TestOrderErrors(t *testing.T) {
	const most = 1 << 40
	for _, c := range []struct {
		n, k int
		want api.Errno
	}{
		{0, 0, api.ErrArg},
		{-1, 0, api.ErrArg},
		{math.MinInt, 0, api.ErrArg},
		{most + 1, 0, api.ErrArg},
		{most + 1, most, api.ErrArg},
		{math.MaxInt, 5, api.ErrArg},
		{0, -1, api.ErrArg}, // both errors
		{-5, -5, api.ErrArg},
		{-5, 3, api.ErrArg},
		{most + 1, -1, api.ErrArg},
		{most + 1, most + 1, api.ErrArg},
		{1, 1, api.ErrRange},
		{1, -1, api.ErrRange},
		{5, 5, api.ErrRange},
		{5, 6, api.ErrRange},
		{5, -1, api.ErrRange},
		{5, math.MinInt, api.ErrRange},
		{5, math.MaxInt, api.ErrRange},
		{most, most, api.ErrRange},
		{most, -1, api.ErrRange},
		{1, 0, api.OK},
		{most, most - 1, api.OK},
		{most, 0, api.OK},
	} {
		for _, seed := range seeds {
			for _, f := range []place{rand.Order, rand.Place} {
				got, e := f(seed, c.n, c.k)
				if e != c.want || e != api.OK && got != 0 || got < 0 || e == api.OK && got >= c.n {
					t.Errorf("%d of %d with the seed %d: %d, %d, want error %d", c.k, c.n, seed, got, e, c.want)
				}
			}
		}
	}
	for _, n := range []int{0, -1, math.MinInt, 1025, most, math.MaxInt} {
		if got, e := rand.Shuffle(1, n); e != api.ErrArg || len(got) != 0 {
			t.Errorf("Shuffle(1, %d) = %v, %d", n, got, e)
		}
	}
}

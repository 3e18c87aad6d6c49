package rand

import (
	"refuter/api"
	"refuter/hash"
)

// rounds are the numbers of the rounds of an order.
var rounds = [...]int{0, 1, 2, 3}

// Order returns where the k-th of n elements is in a random order, without listing it.
func Order(seed uint64, n, k int) (int, api.Errno) {
	if e := checkPlace(n, k); e != api.OK {
		return 0, e
	}
	return walk(orderOf(seed, n).forward, n, k), api.OK
}

// Place is the inverse of Order.
func Place(seed uint64, n, k int) (int, api.Errno) {
	if e := checkPlace(n, k); e != api.OK {
		return 0, e
	}
	return walk(orderOf(seed, n).backward, n, k), api.OK
}

// Shuffle returns the numbers from 0 to n - 1 in a random order.
func Shuffle(seed uint64, n int) ([]int, api.Errno) {
	if n < 1 || n > api.MaxValues {
		return nil, api.ErrArg
	}
	list := make([]int, n)
	for k := range list {
		list[k], _ = Place(seed, n, k)
	}
	return list, api.OK
}

// checkPlace returns an error unless k is one of n elements that can be ordered.
func checkPlace(n, k int) api.Errno {
	if n < 1 || n > api.MaxSpan {
		return api.ErrArg
	}
	if k < 0 || k >= n {
		return api.ErrRange
	}
	return api.OK
}

// walk steps from k on to a number below n. The steps are those of a permutation,
// so they lead back to k at the latest, which is below n.
func walk(step func(x int) int, n, k int) int {
	x := step(k)
	for x >= n {
		x = step(x)
	}
	return x
}

// order is a random permutation of the numbers below size * size. In each round,
// one half of a number is masked by the other, which stays, so that the round can
// be undone.
type order struct {
	seed uint64
	size int // a power of two
}

// orderOf returns the order of the least size that has room for n numbers.
func orderOf(seed uint64, n int) order {
	size := 2
	for size*size < n {
		size *= 2
	}
	return order{seed, size}
}

// forward returns the number to which x is permuted.
func (o order) forward(x int) int {
	left, right := x/o.size, x%o.size
	for _, r := range rounds {
		left, right = right, left^o.mask(r, right)
	}
	return left*o.size + right
}

// backward returns the number that is permuted to x.
func (o order) backward(x int) int {
	left, right := x/o.size, x%o.size
	for i := len(rounds) - 1; i >= 0; i-- {
		left, right = right^o.mask(rounds[i], left), left
	}
	return left*o.size + right
}

// mask returns what a round changes one half by, which depends on the other half.
func (o order) mask(round, half int) int {
	return int(hash.Sum("order", int(o.seed), round, half) % uint64(o.size))
}

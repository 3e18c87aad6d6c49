package rand

import (
	"iter"
	"math"

	"refuter/api"
	"refuter/wide"
)

// maxWords is the greatest number of words that are taken for one big number.
// All numbers of so many words, and 2^64 to the power of it, are in the range of
// package wide.
const maxWords = 255

// halfBits is the number of bits of half a word, which is always an int.
const halfBits = 32

// Big is Below for big integers.
func Big(seed uint64, label string, i int, n wide.Int) (wide.Int, int, api.Errno) {
	if wide.Sign(n) < 1 {
		return wide.Int{}, i, api.ErrArg
	}
	k, power, e := wordsFor(n)
	if e != api.OK {
		return wide.Int{}, i, e
	}
	_, rest, _ := wide.Div(power, n)
	multiple, _ := wide.Sub(power, rest)
	fits := func(x wide.Int) bool { return wide.Compare(x, multiple) < 0 }
	x, next := take(numbers(seed, label, i, k), fits)
	_, result, _ := wide.Div(x, n)
	return result, next, api.OK
}

// wordsFor returns the least k for which n is at most 2^(64 * k), and this power.
func wordsFor(n wide.Int) (int, wide.Int, api.Errno) {
	power := wide.From(1)
	for k := range maxWords + 1 {
		if wide.Compare(n, power) <= 0 {
			return k, power, api.OK
		}
		power = withDigit(power, 0)
	}
	return 0, wide.Int{}, api.ErrLimit
}

// numbers returns an iterator over the numbers of k words each in a stream, from
// an index on, each with the index of the next one.
func numbers(seed uint64, label string, i, k int) iter.Seq2[wide.Int, int] {
	return func(yield func(wide.Int, int) bool) {
		for at := i; yield(number(seed, label, at, k), at+k); at += k {
		}
	}
}

// number returns the number whose digits in base 2^64 are k words of a stream,
// the first one the least significant.
func number(seed uint64, label string, i, k int) wide.Int {
	var x wide.Int
	for j := k - 1; j >= 0; j-- {
		x = withDigit(x, Word(seed, label, i+j))
	}
	return x
}

// withDigit returns x * 2^64 + w.
func withDigit(x wide.Int, w uint64) wide.Int {
	for _, half := range [...]uint64{w >> halfBits, w & math.MaxUint32} {
		x, _ = wide.Mul(wide.From(1<<halfBits), x)
		x, _ = wide.Add(x, wide.From(int(half)))
	}
	return x
}

// Package hash is layer 1: 64-bit hashes of labelled integers and bytes.
// They are fast and have no keys, so they do not resist an adversary.
package hash

// groupSize is the number of bytes that one word of a byte slice holds.
const groupSize = 8

// multiplier is odd, which makes multiplying by it a bijection modulo 2^64.
const multiplier = 0x9E3779B97F4A7C15

// Sum returns the hash of a label and words.
func Sum(label string, words ...int) uint64 {
	var state uint64
	for w := range wordsOf([]byte(label)) {
		state = mix(state, w)
	}
	// The lengths keep apart a label and words that would run into each other.
	state = mix(state, uint64(len(label)))
	state = mix(state, uint64(len(words)))
	for _, n := range words {
		state = mix(state, uint64(n))
	}
	return mix(state, 0)
}

// Bytes returns the hash of a label and bytes.
func Bytes(label string, b []byte) uint64 {
	words := make([]int, 0, len(b)/groupSize+2)
	for w := range wordsOf(b) {
		words = append(words, int(w))
	}
	// The padding of the last group is told from zero bytes only by the length.
	words = append(words, len(b))
	return Sum(label, words...)
}

// Pair returns the hash of two hashes.
func Pair(a, b uint64) uint64 {
	return Sum("pair", int(a), int(b))
}

// mix mixes a word into a state.
func mix(state, word uint64) uint64 {
	m := (state ^ word) * multiplier
	return m ^ m>>32
}

// wordsOf returns an iterator over the words of a byte slice.
func wordsOf(b []byte) func(yield func(uint64) bool) {
	return func(yield func(uint64) bool) {
		for rest := b; len(rest) > 0; rest = rest[min(groupSize, len(rest)):] {
			if !yield(firstWord(rest)) {
				return
			}
		}
	}
}

// firstWord returns the word of the first group of bytes, in little-endian order.
func firstWord(b []byte) uint64 {
	var word uint64
	for i, x := range b[:min(groupSize, len(b))] {
		word |= uint64(x) << (8 * i)
	}
	return word
}

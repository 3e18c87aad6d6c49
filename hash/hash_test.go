package hash_test

import (
	"bytes"
	"math"
	"slices"
	"strings"
	"testing"

	"refuter/hash"
)

// The lengths lie on both sides of every boundary of the first groups of 8 bytes.
var lengths = []int{0, 1, 2, 7, 8, 9, 15, 16, 17, 23, 24, 25, 64, 100}

// Edge words: zero, small ones of both signs, single bits and both ends of the range.
var edges = []int{0, 1, -1, 2, 5, 255, 256, 513, 1 << 31, 1 << 32, 1<<32 + 1, 1 << 62, math.MaxInt, math.MinInt}

// TestSumValues (P1.1) compares with sums that were calculated from the
// definition by another program.
func TestSumValues(t *testing.T) {
	for _, c := range []struct {
		label string
		words []int
		want  uint64
	}{
		{"", nil, 0},
		{"", []int{0}, 0x9C60C22591400851},
		{"a", nil, 0x80B5F6F3A21F8298},
		{"a", []int{5}, 0xDBBE367E93B58544},
		{"a", []int{6}, 0x49FC8178B938ECAF},
		{"a", []int{-1}, 0x09EE594D249F2A64},
		{"a", []int{math.MinInt, math.MaxInt}, 0xD44ABD7A8AC43800},
		{"seven..", []int{1}, 0x3B3B5C296E22D6E2},
		{"eight...", []int{1}, 0xD194BC14A7695160},
		{"nine.....", []int{1}, 0xC5FFB68BC514F13B},
		{"sixteen bytes ..", []int{1, 2, 3}, 0x494F8F796E1AC5F2},
		{"\xff\x00\xfe", []int{0, 0}, 0x8B7F5F2CE8E0EC05},
		{"\x00\x00\x00\x00\x00\x00\x00\x00", nil, 0xD21812544D99A847},
		{"ä€", []int{7}, 0xC43FFCF50DBEF792},
	} {
		if got := hash.Sum(c.label, c.words...); got != c.want {
			t.Errorf("Sum(%q, %v) = %#016x, want %#016x", c.label, c.words, got, c.want)
		}
	}
}

// TestBytesValues (P1.2) compares with hashes that were calculated from the
// definition by another program.
func TestBytesValues(t *testing.T) {
	for _, c := range []struct {
		label string
		b     []byte
		want  uint64
	}{
		{"", nil, 0x9C60C22591400851},
		{"", []byte{}, 0x9C60C22591400851},
		{"a", nil, 0xAECCC2C435D70264},
		{"a", []byte{0}, 0xAFFAE7C4CB5A318D},
		{"a", []byte{1, 2}, 0x5CD85CBD93FD0838},
		{"b", ascending(7), 0xA1A17680369339FE},
		{"b", ascending(8), 0xD0113611431058C1},
		{"b", ascending(9), 0xD8CAA3E3A589918F},
		{"b", bytes.Repeat([]byte{255}, 16), 0x2540097D6884AE1A},
		{"bytes..!", ascending(17), 0x2656BF3ECF05147E},
	} {
		if got := hash.Bytes(c.label, c.b); got != c.want {
			t.Errorf("Bytes(%q, %v) = %#016x, want %#016x", c.label, c.b, got, c.want)
		}
	}
}

// TestBytesAreSums (P1.2) writes the words of the slices out by hand.
func TestBytesAreSums(t *testing.T) {
	for _, c := range []struct {
		b     []byte
		words []int
	}{
		{nil, []int{0}},
		{[]byte{}, []int{0}},
		{[]byte{0}, []int{0, 1}},
		{[]byte{1, 2}, []int{513, 2}},
		{[]byte{0, 0, 0, 0, 0, 0, 1}, []int{1 << 48, 7}},
		{[]byte{0, 0, 0, 0, 0, 0, 0, 128}, []int{math.MinInt, 8}},
		{[]byte{255, 255, 255, 255, 255, 255, 255, 255}, []int{-1, 8}},
		{[]byte{1, 0, 0, 0, 0, 0, 0, 0, 3}, []int{1, 3, 9}},
		{make([]byte, 16), []int{0, 0, 16}},
		{make([]byte, 17), []int{0, 0, 0, 17}},
	} {
		for _, label := range []string{"", "x", "eight...", "nine....."} {
			if got, want := hash.Bytes(label, c.b), hash.Sum(label, c.words...); got != want {
				t.Errorf("Bytes(%q, %v) = %#x, want %#x", label, c.b, got, want)
			}
		}
	}
}

// TestPairValues (P1.2) covers words that are no positive ints.
func TestPairValues(t *testing.T) {
	for _, c := range []struct{ a, b, want uint64 }{
		{0, 0, 0xA37203A6CD944451},
		{1, 2, 0xD5E6A2A3A39A5DF8},
		{2, 1, 0x9A705C9DF9B46602},
		{math.MaxUint64, 1 << 63, 0x1406334980E31F52},
		{1 << 63, math.MaxUint64, 0x4F9E83B9E34DBE6E},
	} {
		if got := hash.Pair(c.a, c.b); got != c.want {
			t.Errorf("Pair(%d, %d) = %#016x, want %#016x", c.a, c.b, got, c.want)
		}
	}
	for _, a := range edges {
		for _, b := range edges {
			if hash.Pair(uint64(a), uint64(b)) != hash.Sum("pair", a, b) {
				t.Errorf("Pair(%d, %d) is not the sum of its arguments", a, b)
			}
		}
	}
}

// TestBytesPadsWithZeros (P1.2): what lies behind the end of a slice in its
// array has no influence.
func TestBytesPadsWithZeros(t *testing.T) {
	full := bytes.Repeat([]byte{0xAB}, 40)
	for n := range full {
		if hash.Bytes("x", full[:n]) != hash.Bytes("x", slices.Clip(slices.Clone(full[:n]))) {
			t.Errorf("the hash of %d bytes depends on those behind them", n)
		}
	}
}

// TestArgumentsStay (P1.1, P1.2): arguments are neither changed nor kept, and a
// repeated call returns the same.
func TestArgumentsStay(t *testing.T) {
	words, b := slices.Clone(edges), ascending(21)
	sum, sum2 := hash.Sum("label", words...), hash.Bytes("label", b)
	if !slices.Equal(words, edges) || !bytes.Equal(b, ascending(21)) {
		t.Error("arguments are changed")
	}
	words[0]++
	b[0]++
	if hash.Sum("label", edges...) != sum || hash.Bytes("label", ascending(21)) != sum2 {
		t.Error("a repeated call returns something else")
	}
}

// TestSumUnwinds (P1.1, P1.3) undoes the mixing from the last word to the first:
// that leads back to the state 0 only if each word was mixed in once, in its
// place, by a bijection of the state.
func TestSumUnwinds(t *testing.T) {
	for _, n := range lengths {
		label := text(n)
		for k := range edges {
			words := edges[:k]
			state := unmix(hash.Sum(label, words...), 0)
			for i := k - 1; i >= 0; i-- {
				state = unmix(state, uint64(words[i]))
			}
			state = unmix(state, uint64(k))
			state = unmix(state, uint64(n))
			groups := groupsOf(label)
			for i := len(groups) - 1; i >= 0; i-- {
				state = unmix(state, groups[i])
			}
			if state != 0 {
				t.Errorf("label of %d bytes, %d words: unwound to %#x", n, k, state)
			}
		}
	}
}

// TestOneWordDiffers (P1.3) exchanges one element at each place.
func TestOneWordDiffers(t *testing.T) {
	for _, n := range lengths {
		label := text(n)
		for k := 1; k <= 6; k++ {
			for place := range k {
				seen := map[uint64]int{}
				for _, e := range edges {
					words := slices.Repeat([]int{3}, k)
					words[place] = e
					sum := hash.Sum(label, words...)
					if other, ok := seen[sum]; ok {
						t.Errorf("label of %d bytes, element %d of %d: %d and %d have the same sum", n, place, k, other, e)
					}
					seen[sum] = e
				}
			}
		}
	}
}

// TestLabelsDiffer (P1.3) changes one byte, and then all bytes of one group.
func TestLabelsDiffer(t *testing.T) {
	for _, n := range lengths {
		for _, words := range [][]int{nil, {0}, {1, -2, 3}} {
			label := text(n)
			sum := hash.Sum(label, words...)
			for _, other := range changedInOneGroup([]byte(label)) {
				if hash.Sum(string(other), words...) == sum {
					t.Errorf("labels %q and %q have the same sum of %v", label, other, words)
				}
			}
		}
	}
}

// TestBytesDiffer (P1.3) changes one byte, and then all bytes of one group.
func TestBytesDiffer(t *testing.T) {
	for _, n := range lengths {
		for _, b := range [][]byte{make([]byte, n), ascending(n), bytes.Repeat([]byte{255}, n)} {
			sum := hash.Bytes("x", b)
			for _, other := range changedInOneGroup(b) {
				if hash.Bytes("x", other) == sum {
					t.Errorf("%v and %v have the same hash", b, other)
				}
			}
		}
	}
}

// TestLengthsDiffer (P1.1, P1.2): zeros at the end are told apart by the
// lengths that are mixed in.
func TestLengthsDiffer(t *testing.T) {
	seen := map[uint64]bool{}
	add := func(sum uint64) {
		if seen[sum] {
			t.Errorf("repeated hash %#x", sum)
		}
		seen[sum] = true
	}
	for n := range 40 {
		add(hash.Sum("n", make([]int, n)...))
		add(hash.Sum(strings.Repeat("\x00", n)+"n", 1))
		add(hash.Sum("n"+strings.Repeat("\x00", n), 1, 1))
		add(hash.Bytes("b", make([]byte, n)))
	}
}

// TestPairInjective (P1.4) calculates each argument of Pair from the hash and
// the other argument: it is the only one with this hash.
func TestPairInjective(t *testing.T) {
	// The states between the mixing of a, of b and of the final 0.
	beforeA := unmix(unmix(unmix(hash.Pair(0, 0), 0), 0), 0)
	for _, x := range edges {
		for _, y := range edges {
			a, b := uint64(x), uint64(y)
			afterA := unmix(unmix(hash.Pair(a, 0), 0), 0)
			afterB := unmix(hash.Pair(a, b), 0)
			if got := wordBetween(beforeA, unmix(afterB, b)); got != a {
				t.Errorf("Pair(%d, %d): the first argument is calculated as %d", a, b, got)
			}
			if got := wordBetween(afterA, afterB); got != b {
				t.Errorf("Pair(%d, %d): the second argument is calculated as %d", a, b, got)
			}
		}
	}
}

// TestPairsDiffer (P1.4) varies one argument while the other one is fixed.
func TestPairsDiffer(t *testing.T) {
	for _, fixed := range edges {
		first, second := map[uint64]bool{}, map[uint64]bool{}
		varied := slices.Clone(edges)
		for n := range 1000 {
			varied = append(varied, 1000+n)
		}
		for _, n := range varied {
			first[hash.Pair(uint64(n), uint64(fixed))] = true
			second[hash.Pair(uint64(fixed), uint64(n))] = true
		}
		if len(first) != len(varied) || len(second) != len(varied) {
			t.Errorf("%d pairs with %d have %d and %d hashes", len(varied), fixed, len(first), len(second))
		}
	}
}

// inverse is the inverse of the multiplier of mixing modulo 2^64.
const inverse = 0xF1DE83E19937733D

// unmix returns the only state from which mixing the word leads to the given one.
func unmix(state, word uint64) uint64 {
	m := state ^ state>>32
	return m*inverse ^ word
}

// wordBetween returns the only word that leads from one state to another.
func wordBetween(before, after uint64) uint64 {
	return unmix(after, before)
}

// groupsOf returns the words of a label.
func groupsOf(label string) []uint64 {
	var groups []uint64
	for i := range len(label) {
		if i%8 == 0 {
			groups = append(groups, 0)
		}
		groups[i/8] += uint64(label[i]) << (i % 8 * 8)
	}
	return groups
}

// changedInOneGroup returns copies of b with one byte changed, and with all
// bytes of one group changed.
func changedInOneGroup(b []byte) [][]byte {
	var changed [][]byte
	for i := range b {
		for _, flip := range []byte{1, 128, 255} {
			c := slices.Clone(b)
			c[i] ^= flip
			changed = append(changed, c)
		}
	}
	for start := 0; start < len(b); start += 8 {
		c := slices.Clone(b)
		for i := start; i < min(start+8, len(b)); i++ {
			c[i] = ^c[i]
		}
		changed = append(changed, c)
	}
	return changed
}

// ascending returns the bytes 1, 2, .., n.
func ascending(n int) []byte {
	b := make([]byte, n)
	for i := range b {
		b[i] = byte(i + 1)
	}
	return b
}

// text returns a label of n bytes.
func text(n int) string {
	return strings.Repeat("abcdefghijk", n/11+1)[:n]
}

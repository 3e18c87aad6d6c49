package rand_test

import (
	"math"
	"math/big"
	"testing"

	"refuter/hash"
	"refuter/rand"
)

// TestWordValues (P5.1) compares with words and seeds that were calculated from
// the definition by another program.
func TestWordValues(t *testing.T) {
	for _, c := range []struct {
		seed        uint64
		label       string
		i           int
		word, split uint64
	}{
		{0, "", 0, 0x10171EBB3D55B8EE, 0x62F154FB152463A2},
		{1, "", 0, 0x8CE830D7A56C4611, 0x943C36DED990E288},
		{0, "", 1, 0xB3DDD3BC67C5A6E7, 0xFFE77295173A83A3},
		{7, "a", 3, 0xB9484A8E53263A75, 0x20050376BD49E1B6},
		{math.MaxUint64, "a", -1, 0x17FE429E0A6F94F7, 0x46BB485F26E497C6},
		{1 << 63, "a", math.MinInt, 0x2DF02FAA127ED066, 0x2BD9EE3A29B42A82},
		{12345678901234567890, "label", math.MaxInt, 0x660CAFDEA270A39A, 0x1306E19B7B32207E},
		{5, "eight...", 2, 0x5A08646B6E8A6C0C, 0x12CB551595A3DDCD},
		{5, "nine.....", 2, 0x7AE19AE06E9A7CB6, 0x6D19BB384E27107E},
		{3, "\xff\x00\xfe", 4, 0x431AB2D81BE875EC, 0xD56C8E7343EF1DB6},
	} {
		if got := rand.Word(c.seed, c.label, c.i); got != c.word {
			t.Errorf("Word(%d, %q, %d) = %#016x, want %#016x", c.seed, c.label, c.i, got, c.word)
		}
		if got := rand.Split(c.seed, c.label, c.i); got != c.split {
			t.Errorf("Split(%d, %q, %d) = %#016x, want %#016x", c.seed, c.label, c.i, got, c.split)
		}
	}
}

// TestWordsAreSums (P5.1) covers all edges of seeds, labels and indices.
func TestWordsAreSums(t *testing.T) {
	for _, seed := range seeds {
		for _, label := range labels {
			for _, i := range indices {
				word := hash.Sum(label, int(seed), i)
				if got := rand.Word(seed, label, i); got != word {
					t.Errorf("Word(%d, %q, %d) = %d, want %d", seed, label, i, got, word)
				}
				if got, want := rand.Split(seed, label, i), hash.Sum("split", int(word)); got != want {
					t.Errorf("Split(%d, %q, %d) = %d, want %d", seed, label, i, got, want)
				}
			}
		}
	}
}

// TestBelowValues (P5.2) compares with numbers that were calculated from the
// definition by another program. Of the words for the bounds above 2^61, 0 to 6
// are refused, also across the end of the indices.
func TestBelowValues(t *testing.T) {
	const fifth = 3689348814741910324 // so that a fifth of the words is refused
	for _, c := range []struct {
		seed         uint64
		label        string
		i, n         int
		number, next int
	}{
		{5, "b", 0, 1, 0, 1},
		{5, "b", 1, 10, 8, 2},
		{5, "b", 7, 3, 2, 8},
		{9, "", -1, 1000, 9, 0},
		{math.MaxUint64, "b", math.MaxInt, 1000, 464, math.MinInt},
		{5, "b", math.MinInt, 1 << 40, 383564986127, math.MinInt + 1},
		{5, "b", 7, 1 << 62, 2061955947834131801, 8},
		{5, "b", 7, 1<<62 - 1, 2061955947834131804, 8},
		{3, "r", math.MaxInt - 1, fifth, 1947227303616691743, math.MinInt},
		{19, "r", math.MaxInt - 1, fifth, 1610527057069360, math.MinInt + 1},
		{23, "r", math.MaxInt - 1, fifth, 2885847990578299217, math.MinInt + 2},
		{387, "r", math.MaxInt - 1, fifth, 1187902946551566341, math.MinInt + 3},
		{1895, "r", math.MaxInt - 1, fifth, 558066756607463585, math.MinInt + 5},
	} {
		if got, next := rand.Below(c.seed, c.label, c.i, c.n); got != c.number || next != c.next {
			t.Errorf("Below(%d, %q, %d, %d) = %d, %d, want %d, %d", c.seed, c.label, c.i, c.n, got, next, c.number, c.next)
		}
	}
}

// bounds returns bounds of Below: small ones, and those around powers of two and
// around fractions of 2^64, for which many words are refused.
func bounds() []int {
	var list []int
	for n := range 40 {
		list = append(list, n+1)
	}
	for shift := 6; shift <= 62; shift++ {
		list = append(list, 1<<shift-1, 1<<shift)
		if shift < 62 {
			list = append(list, 1<<shift+1)
		}
	}
	for parts := uint64(5); parts < 40; parts++ {
		n := int(math.MaxUint64 / parts)
		list = append(list, n-1, n, n+1)
	}
	return list
}

// TestBelow (P5.2, P5.8) compares with the definition.
func TestBelow(t *testing.T) {
	all, refused := 0, 0
	for _, n := range bounds() {
		for _, seed := range seeds {
			for _, i := range indices {
				got, next := rand.Below(seed, "b", i, n)
				want, end := byDefinition(seed, "b", i, big.NewInt(int64(n)))
				if n == 1 {
					want, end = new(big.Int), i+1 // Below takes a word for 1
				}
				if got != int(want.Int64()) || next != end || got < 0 || got >= n {
					t.Errorf("Below(%d, b, %d, %d) = %d, %d, want %v, %d", seed, i, n, got, next, want, end)
				}
				all++
				if next != i+1 {
					refused++
				}
			}
		}
	}
	if refused < 50 {
		t.Errorf("words were refused in %d of %d cases: too few to tell", refused, all)
	}
}

// TestBelowOther (P5.2): no word is taken for a bound that is none.
func TestBelowOther(t *testing.T) {
	for _, n := range []int{0, -1, -2, -5, math.MinInt, math.MinInt + 1, 1<<62 + 1, 1<<62 + 2, 3 << 61, math.MaxInt} {
		for _, i := range indices {
			for _, seed := range seeds {
				if got, next := rand.Below(seed, "a", i, n); got != 0 || next != i {
					t.Errorf("Below(%d, a, %d, %d) = %d, %d", seed, i, n, got, next)
				}
			}
		}
	}
}

// TestBelowLimits (P5.2) chooses the first word: the greatest ones that count,
// and the least and greatest ones that are refused.
func TestBelowLimits(t *testing.T) {
	for _, n := range bounds() {
		bound := uint64(n)
		refused := new(big.Int).Mod(power(64), big.NewInt(int64(n))).Uint64()
		last := math.MaxUint64 - refused
		for _, i := range []int{0, 9, -1, math.MaxInt, math.MinInt} {
			for _, w := range []uint64{0, 1, bound - 1, bound, last - 1, last} {
				got, next := rand.Below(seedFor(t, i, w), "a", i, n)
				if got != int(w%bound) || next != i+1 {
					t.Errorf("Below %d of the word %d at %d is %d, %d", n, w, i, got, next)
				}
			}
			if refused == 0 {
				continue // all words count for powers of two
			}
			for _, w := range []uint64{last + 1, math.MaxUint64} {
				seed := seedFor(t, i, w)
				got, next := rand.Below(seed, "a", i, n)
				want, end := rand.Below(seed, "a", i+1, n)
				if got != want || next != end || next == i+1 {
					t.Errorf("Below %d of the word %d at %d is %d, %d, want %d, %d", n, w, i, got, next, want, end)
				}
			}
		}
	}
}

// TestBelowReachesAll (P5.8): each number below a small bound is returned.
func TestBelowReachesAll(t *testing.T) {
	for n := 1; n <= 100; n++ {
		seen := map[int]bool{}
		for i := range 100 * n {
			number, next := rand.Below(11, "all", i, n)
			if number < 0 || number >= n || next != i+1 {
				t.Errorf("Below(11, all, %d, %d) = %d, %d", i, n, number, next)
			}
			seen[number] = true
		}
		if len(seen) != n {
			t.Errorf("%d of %d numbers are returned", len(seen), n)
		}
	}
}

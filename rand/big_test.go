package rand_test

import (
	"math"
	"math/big"
	"testing"

	"refuter/api"
	"refuter/rand"
	"refuter/wide"
)

// checkBig compares Big with a result and an index.
func checkBig(t *testing.T, seed uint64, label string, i int, n, want *big.Int, end int) {
	t.Helper()
	got, next, e := rand.Big(seed, label, i, of(t, n))
	if e != api.OK || got.String() != want.String() || next != end {
		t.Errorf("Big(%d, %q, %d, %.60v) = %.60v, %d, %d, want %.60v, %d", seed, label, i, n, got, next, e, want, end)
	}
	if wide.Sign(got) < 0 || wide.Compare(got, of(t, n)) >= 0 {
		t.Errorf("Big(%d, %q, %d, %.60v) = %.60v is not in range", seed, label, i, n, got)
	}
}

// TestBigValues (P5.3) compares with numbers that were calculated from the
// definition by another program. In the last cases up to 11 numbers are refused.
func TestBigValues(t *testing.T) {
	const near = math.MaxInt - 2
	for _, c := range []struct {
		seed  uint64
		label string
		i     int
		n     *big.Int
		want  string
		words int
	}{
		{5, "b", 4, one, "0", 0},
		{5, "b", 4, big.NewInt(2), "1", 1},
		{5, "b", 4, plus(power(64), -1), "6165249982488112549", 1},
		{5, "b", 4, power(64), "6165249982488112549", 1},
		{5, "b", 4, plus(power(64), 1), "18142308204227119941", 2},
		{5, "b", 4, power(80), "162355959842700251884965", 2},
		{math.MaxUint64, "", math.MaxInt, power(128), "62261720049383345651071709230502576850", 2},
		{math.MaxUint64, "", math.MaxInt, plus(power(128), 1), "62261720049383345650418241386915025189", 3},
		{3, "x", -3, new(big.Int).Exp(big.NewInt(10), big.NewInt(60), nil), "413006239336958463731951172925977962235938346400165143429420", 4},
		{84, "r", near, plus(power(63), 1), "1480146738742905291", 6},
		{117, "r", near, plus(power(63), 1), "4046516909320159359", 11},
		{165, "r", near, plus(power(63), 1), "7993127084951360944", 12},
		{117, "r", near, plus(power(127), 1), "13270634718307794590411218638225728009", 22},
		{5, "r", near, plus(power(191), 1), "512022344504346523818932636804870438951650261061194216407", 6},
		{565, "r", near, plus(power(191), 1), "20809550398815841626918419805771705510304850045912614417", 36},
	} {
		want, _ := new(big.Int).SetString(c.want, 10)
		checkBig(t, c.seed, c.label, c.i, c.n, want, c.i+c.words)
	}
}

// bigBounds returns bounds of Big on both sides of powers of two, also of those
// for which half of the numbers is refused.
func bigBounds() []*big.Int {
	list := []*big.Int{one, big.NewInt(2), big.NewInt(3), big.NewInt(10)}
	for _, shift := range []uint{31, 32, 33, 61, 62, 63, 64, 65, 95, 96, 97, 126, 127, 128, 129, 190, 191, 192, 319, 320, 4095, 4096} {
		x := power(shift)
		list = append(list, plus(x, -1), x, plus(x, 1))
	}
	return list
}

// TestBig (P5.3, P5.8) compares with the definition.
func TestBig(t *testing.T) {
	all, refused := 0, 0
	for _, n := range bigBounds() {
		k := (plus(n, -1).BitLen() + 63) / 64
		for _, seed := range seeds {
			for _, i := range indices {
				want, end := byDefinition(seed, "b", i, n)
				checkBig(t, seed, "b", i, n, want, end)
				all++
				if end != i+k {
					refused++
				}
			}
		}
	}
	if refused < 100 {
		t.Errorf("numbers were refused in %d of %d cases: too few to tell", refused, all)
	}
}

// TestBigWords (P5.3): n up to 2^(64 * k) takes k words at a time, for all k.
func TestBigWords(t *testing.T) {
	for _, k := range []int{1, 2, 3, 4, 7, 8, 64, 128, 254, 255} {
		least, greatest := plus(power(uint(64*(k-1))), 1), power(uint(64*k))
		for _, i := range []int{0, -1, math.MaxInt - 1} {
			for _, n := range []*big.Int{least, greatest} {
				want, end := byDefinition(6, "words", i, n)
				checkBig(t, 6, "words", i, n, want, end)
				if end != i+k {
					t.Errorf("Big takes %d words for %.60v, want %d", end-i, n, k)
				}
			}
			// More than half of them: as many numbers are refused as can be.
			half := plus(power(uint(64*k-1)), 1)
			want, end := byDefinition(6, "words", i, half)
			checkBig(t, 6, "words", i, half, want, end)
		}
	}
}

// numberAt returns the number whose digits in base 2^64 are k words.
func numberAt(seed uint64, label string, i, k int) *big.Int {
	x := new(big.Int)
	for j := range k {
		word := new(big.Int).SetUint64(rand.Word(seed, label, i+j))
		x.Add(x, word.Lsh(word, uint(64*j)))
	}
	return x
}

// TestBigLimits (P5.3): of the numbers of k words, x is the greatest that counts
// for x + 1, and the least that is refused for x, if it is more than half of all.
func TestBigLimits(t *testing.T) {
	tried := 0
	for _, k := range []int{1, 2, 3, 9} {
		for seed := range uint64(20) {
			i := int(seed) - 10
			x := numberAt(seed, "limits", i, k)
			if x.BitLen() < 64*k {
				continue
			}
			tried++
			checkBig(t, seed, "limits", i, plus(x, 1), x, i+k)
			want, end := byDefinition(seed, "limits", i+k, x)
			checkBig(t, seed, "limits", i, x, want, end)
		}
	}
	if tried < 20 {
		t.Errorf("%d cases: too few to tell", tried)
	}
}

// TestBigErrors (P5.3) tells with each error the index that was given.
func TestBigErrors(t *testing.T) {
	greatest, beyond := plus(power(16384), -1), plus(power(64*255), 1)
	negative := func(x *big.Int) *big.Int { return new(big.Int).Neg(x) }
	for _, c := range []struct {
		n    *big.Int
		want api.Errno
	}{
		{new(big.Int), api.ErrArg},
		{big.NewInt(-1), api.ErrArg},
		{negative(power(64)), api.ErrArg},
		{negative(beyond), api.ErrArg}, // both errors
		{negative(greatest), api.ErrArg},
		{beyond, api.ErrLimit},
		{plus(beyond, 1), api.ErrLimit},
		{power(64*255 + 1), api.ErrLimit},
		{power(16383), api.ErrLimit},
		{greatest, api.ErrLimit},
	} {
		for _, i := range indices {
			got, next, e := rand.Big(1, "a", i, of(t, c.n))
			if e != c.want || wide.Sign(got) != 0 || next != i {
				t.Errorf("Big(1, a, %d, %.60v) = %.60v, %d, %d, want error %d", i, c.n, got, next, e, c.want)
			}
		}
	}
	if got, next, e := rand.Big(1, "a", 3, wide.Int{}); e != api.ErrArg || wide.Sign(got) != 0 || next != 3 {
		t.Errorf("Big of the zero value = %v, %d, %d", got, next, e)
	}
}

// TestBigAgreesWithBelow (P5.10), also where words are refused.
func TestBigAgreesWithBelow(t *testing.T) {
	for _, n := range bounds() {
		if n == 1 {
			continue
		}
		refused := new(big.Int).Mod(power(64), big.NewInt(int64(n))).Uint64()
		some := append([]uint64{seedFor(t, 0, math.MaxUint64), seedFor(t, 0, math.MaxUint64-refused)}, seeds...)
		for _, seed := range some {
			for _, i := range indices {
				got, next, e := rand.Big(seed, "a", i, wide.From(n))
				want, end := rand.Below(seed, "a", i, n)
				if number, ok := got.Small(); e != api.OK || !ok || number != want || next != end {
					t.Errorf("Big(%d, a, %d, %d) = %v, %d, %d, but Below is %d, %d", seed, i, n, got, next, e, want, end)
				}
			}
		}
	}
}

// TestBigArgumentsStay (P5.3): a bound can be used again, and gives the same again.
func TestBigArgumentsStay(t *testing.T) {
	for _, n := range bigBounds() {
		bound := of(t, n)
		first, _, _ := rand.Big(2, "s", 0, bound)
		text := first.String()
		for i := range 5 {
			rand.Big(2, "s", i, bound)
		}
		again, _, _ := rand.Big(2, "s", 0, bound)
		if bound.String() != n.String() || first.String() != text || again.String() != text {
			t.Errorf("Big changes %.60v or its results", n)
		}
	}
}

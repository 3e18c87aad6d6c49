package wide_test

import (
	"math/big"
	"regexp"
	"strings"
	"testing"

	"refuter/api"
	"refuter/wide"
)

// checkText parses the text of n, and compares what comes out.
func checkText(t *testing.T, n *big.Int) {
	t.Helper()
	s := n.String()
	x, e := wide.Parse(s)
	if got := x.String(); e != api.OK || got != s {
		t.Errorf("Parse(%s) = %.60s, %d", name(n), got, e)
	}
	again, e := wide.Parse(x.String())
	if e != api.OK || wide.Compare(x, again) != 0 {
		t.Errorf("the text of %s is that of another integer", name(n))
	}
}

// TestTexts (P3.2, P3.9) covers all lengths, and zeros and nines at each place.
func TestTexts(t *testing.T) {
	for k := range 120 {
		ten := new(big.Int).Exp(big.NewInt(10), big.NewInt(int64(k)), nil)
		for _, n := range around(ten, new(big.Int).Mul(ten, big.NewInt(7)), power(k*3), new(big.Int).Mul(ten, power(90))) {
			checkText(t, n)
		}
	}
	for _, n := range farEdges() {
		checkText(t, n)
	}
	for _, n := range randoms(5, 300, 1200) {
		checkText(t, n)
	}
}

// TestTextsAreValues (P3.2) calculates integers from the digits of their texts.
func TestTextsAreValues(t *testing.T) {
	for _, n := range append(edges(), randoms(6, 50, 800)...) {
		var x wide.Int
		for _, c := range strings.TrimPrefix(n.String(), "-") {
			x, _ = wide.Mul(x, wide.From(10))
			x, _ = wide.Add(x, wide.From(int(c-'0')))
		}
		if n.Sign() < 0 {
			x = wide.Neg(x)
		}
		check(t, "the sum of the digits' values of "+name(n), x, api.OK, n)
		if wide.Compare(x, of(t, n)) != 0 {
			t.Errorf("Parse(%s) is not the sum of the digits' values", name(n))
		}
	}
}

// decimal is the form of decimal texts.
var decimal = regexp.MustCompile(`^(0|-?[1-9][0-9]*)$`)

// checkForm reports unless a short text is accepted exactly if it is a decimal one.
func checkForm(t *testing.T, s string) {
	t.Helper()
	x, e := wide.Parse(s)
	switch {
	case !decimal.MatchString(s):
		checkError(t, "Parse of "+s, x, e, api.ErrForm)
	case e != api.OK || x.String() != s:
		t.Errorf("Parse(%q) = %v, %d", s, x, e)
	}
}

// TestForms (P3.2) tries all texts of two bytes, and longer ones of some bytes.
func TestForms(t *testing.T) {
	checkForm(t, "")
	for a := range 256 {
		checkForm(t, string([]byte{byte(a)}))
		for b := range 256 {
			checkForm(t, string([]byte{byte(a), byte(b)}))
		}
	}
	level := []string{""}
	for range 4 {
		var longer []string
		for _, s := range level {
			for _, c := range "-+019 _.ex/:" {
				longer = append(longer, s+string(c))
			}
		}
		for _, s := range longer {
			checkForm(t, s)
		}
		level = longer
	}
	for _, s := range []string{"-", "-0", "01", "+1", "-01", "00", "--1", "1-", " 1", "1 ", "1\n", "\x001", "1_000", "0x1f", "1e3", "٣", "１"} {
		if x, e := wide.Parse(s); e != api.ErrForm || !isZero(x) {
			t.Errorf("Parse(%q) = %v, %d", s, x, e)
		}
	}
}

// TestBadBytes (P3.2) puts a byte that is no digit at each place of a text.
func TestBadBytes(t *testing.T) {
	for _, sign := range []string{"", "-"} {
		good := sign + "123456789012345678901234567890"
		checkForm(t, good)
		for i := len(sign); i < len(good); i++ {
			for _, bad := range []string{"/", ":", "-", "+", " ", "\x00", "\xff", "a"} {
				checkForm(t, good[:i]+bad+good[i+1:])
				checkForm(t, good[:i]+bad+good[i:])
			}
		}
		checkForm(t, good+"\x00")
		checkForm(t, sign+"0"+good[len(sign):])
	}
}

// TestTextErrors (P3.2): the length is examined before the form, and the form
// before the range.
func TestTextErrors(t *testing.T) {
	beyond := power(16384).String()
	for _, c := range []struct {
		what, s string
		want    api.Errno
	}{
		{"2^16384", beyond, api.ErrLimit},
		{"-2^16384", "-" + beyond, api.ErrLimit},
		{"2^16384 + 1", new(big.Int).Add(power(16384), one).String(), api.ErrLimit},
		{"10^4932 times 9", "9" + strings.Repeat("0", 4932), api.ErrLimit},
		{"5000 nines", strings.Repeat("9", 5000), api.ErrLimit},
		{"a sign and 4999 nines", "-" + strings.Repeat("9", 4999), api.ErrLimit},
		{"5000 bytes with a byte that is no digit", strings.Repeat("9", 4999) + "x", api.ErrForm},
		{"5000 bytes with a leading zero", "0" + strings.Repeat("9", 4999), api.ErrForm},
		{"5000 zeros", strings.Repeat("0", 5000), api.ErrForm},
		{"5000 signs", strings.Repeat("-", 5000), api.ErrForm},
		{"a sign and 4999 zeros", "-" + strings.Repeat("0", 4999), api.ErrForm},
		{"5001 nines", strings.Repeat("9", 5001), api.ErrLimit},
		{"a sign and 5000 nines", "-" + strings.Repeat("9", 5000), api.ErrLimit},
		{"5001 zeros", strings.Repeat("0", 5001), api.ErrLimit},
		{"5001 bytes with a byte that is no digit", strings.Repeat("9", 5000) + "x", api.ErrLimit},
		{"5001 spaces", strings.Repeat(" ", 5001), api.ErrLimit},
		{"many bytes", strings.Repeat("x", 100000), api.ErrLimit},
	} {
		x, e := wide.Parse(c.s)
		checkError(t, "Parse of "+c.what, x, e, c.want)
	}
	checkText(t, greatest)
	checkText(t, new(big.Int).Neg(greatest))
}

// digitCount returns the number of decimal digits of an integer.
func digitCount(x wide.Int) int {
	return len(strings.TrimPrefix(x.String(), "-"))
}

// TestDigitsOfProducts (P3.9): both numbers of digits occur.
func TestDigitsOfProducts(t *testing.T) {
	full, short := 0, 0
	count := func(n, m *big.Int, x, y wide.Int) {
		p, e := wide.Mul(x, y)
		if e != api.OK || n.Sign() == 0 || m.Sign() == 0 {
			return
		}
		switch digitCount(p) {
		case digitCount(x) + digitCount(y):
			full++
		case digitCount(x) + digitCount(y) - 1:
			short++
		default:
			t.Errorf("the product of %s and %s has %d digits", name(n), name(m), digitCount(p))
		}
	}
	forPairs(t, edges(), count)
	forPairs(t, randoms(7, 40, 900), count)
	var tens []*big.Int
	for k := int64(0); k < 12; k++ {
		tens = append(tens, around(new(big.Int).Exp(big.NewInt(10), big.NewInt(k), nil))...)
	}
	forPairs(t, tens, count)
	if full < 100 || short < 100 {
		t.Errorf("%d products have all digits, %d have one less: too few to tell", full, short)
	}
}

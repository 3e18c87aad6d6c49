package frac_test

import (
	"math/big"
	"strings"
	"testing"

	"refuter/api"
	"refuter/frac"
)

// checkText prints a fraction and parses what comes out.
func checkText(t *testing.T, x *big.Rat) {
	t.Helper()
	a, s := of(t, x), x.RatString()
	if got := a.String(); got != s {
		t.Errorf("the text of %s is %.60s", name(x), got)
	}
	b, e := frac.Parse(s)
	check(t, "Parse of the text of "+name(x), b, e, x)
	if frac.Compare(a, b) != 0 {
		t.Errorf("the text of %s is that of another fraction", name(x))
	}
}

// TestTexts (P4.6) covers integers, and fractions of all signs and lengths.
func TestTexts(t *testing.T) {
	for _, all := range [][]*big.Rat{lows(12), edges(), randoms(12, 200, 400), farEdges()} {
		for _, x := range all {
			checkText(t, x)
		}
	}
	for _, c := range []struct {
		p, q int
		text string
	}{{0, 1, "0"}, {5, 1, "5"}, {-5, 1, "-5"}, {1, 2, "1/2"}, {-1, 2, "-1/2"}, {10, 100, "1/10"}, {100, 10, "10"}, {-21, 10, "-21/10"}} {
		if a, e := frac.Of(c.p, c.q); e != api.OK || a.String() != c.text {
			t.Errorf("the text of %d/%d is %v", c.p, c.q, a)
		}
	}
}

// checkForm reports unless a text is accepted exactly if it is that of a fraction.
func checkForm(t *testing.T, s string) bool {
	t.Helper()
	a, e := frac.Parse(s)
	if x, ok := new(big.Rat).SetString(s); ok && x.RatString() == s {
		check(t, "Parse of "+s, a, e, x)
		return true
	}
	checkError(t, "Parse of "+s, a, e, api.ErrForm)
	return false
}

// TestForms (P4.6) tries all texts of up to six of some bytes, and texts with
// one byte of any value.
func TestForms(t *testing.T) {
	const alphabet = "-/0124"
	level, good := []string{""}, 0
	for range 7 {
		var longer []string
		for _, s := range level {
			if checkForm(t, s) {
				good++
			}
			for _, c := range alphabet {
				longer = append(longer, s+string(c))
			}
		}
		level = longer
	}
	if good < 1000 {
		t.Errorf("%d good texts: too few to tell", good)
	}
	for b := range 256 {
		for _, s := range []string{"?", "1?", "?1", "1?2", "?1/2", "1?/2", "1/?2", "1/2?"} {
			checkForm(t, strings.Replace(s, "?", string([]byte{byte(b)}), 1))
		}
	}
}

// TestBadTexts (P4.6): they are the texts of no fraction.
func TestBadTexts(t *testing.T) {
	long, beyond := strings.Repeat("9", 5000), power(16384).String()
	for _, s := range []string{
		"", "/", "1/", "/1", "/2", "1/0", "0/0", "0/1", "0/2", "-0", "-0/5", "-0/1", "2/4", "3/1", "-3/1", "1/1", "4/2", "-4/6",
		"1/-2", "-1/-2", "1/+2", "+1/2", "01/2", "1/02", "00", "01", "-01", "1/2/3", "1/2/", "/1/2", "1//2", "1/ 2", "1 /2", " 1/2", "1/2 ", "1/2\n",
		"1.5", "1e3", "0x1", "1_0", "-", "-/2", "--1/2", "1/2x", "١/٢", "1/2\x00",
		beyond, "-" + beyond, beyond + "/3", "1/" + beyond, "0/" + beyond, beyond + "/" + beyond, beyond + "/1", beyond + "/0", "x/" + beyond,
		long, "9" + long, "-" + long, "1/" + long, "1/9" + long, long + "/2", "9" + long + "/2", long + "9/" + long + "9", strings.Repeat("/", 10000),
	} {
		a, e := frac.Parse(s)
		if len(s) > 60 {
			s = s[:60] + ".."
		}
		checkError(t, "Parse of "+s, a, e, api.ErrForm)
	}
}

package wide

import (
	"cmp"
	"math"
	"math/bits"
	"slices"
)

// A digit has half the bits of a machine word, so that the product of two digits
// fits into a word, even if two more digits are added to it.
const (
	digitBits  = 32
	wordDigits = 2
)

// natural is a number that is not negative, as digits to the base 2^32, the
// lowest one first. It is trimmed if its highest digit is not 0, which gives each
// number one form only. The functions take and return trimmed numbers and change
// no argument; the methods with Times or By in their names work in place.
type natural []uint32

// fromWord returns the number that a machine word holds.
func fromWord(word uint64) natural {
	return natural{uint32(word), uint32(word >> digitBits)}.trimmed()
}

// word returns a number of at most wordDigits digits as a machine word.
func (n natural) word() uint64 {
	return n.at(0) | n.at(1)<<digitBits
}

// trimmed returns the number without the zeros in its highest places.
func (n natural) trimmed() natural {
	for len(n) > 0 && n[len(n)-1] == 0 {
		n = n[:len(n)-1]
	}
	return n
}

// at returns the digit at a place, which is 0 in places above the highest one.
func (n natural) at(place int) uint64 {
	if place < len(n) {
		return uint64(n[place])
	}
	return 0
}

// addTimes adds factor times b to the number, within its places, and returns
// what would have to be carried beyond them.
func (n natural) addTimes(b natural, factor uint32) uint32 {
	carry := carrier()
	for i, d := range n {
		n[i] = carry(uint64(d) + b.at(i)*uint64(factor))
	}
	return carry(0)
}

// subtractTimes subtracts factor times b from the number, within its places, and
// reports whether something would have to be borrowed from beyond them.
func (n natural) subtractTimes(b natural, factor uint32) bool {
	carry, borrow := carrier(), borrower()
	for i, d := range n {
		n[i] = borrow(d, carry(b.at(i)*uint64(factor)))
	}
	return borrow(0, carry(0)) != 0
}

// divideBy divides the number by one digit and returns the rest.
func (n natural) divideBy(divisor uint32) uint32 {
	var rest uint64
	for i := len(n) - 1; i >= 0; i-- {
		rest = rest<<digitBits | uint64(n[i])
		n[i] = uint32(rest / uint64(divisor))
		rest %= uint64(divisor)
	}
	return uint32(rest)
}

// carrier returns a closure that is called with the sum at each place, from the
// lowest one on: it returns the digit there and carries the rest to the next place.
func carrier() func(sum uint64) uint32 {
	var carried uint64
	return func(sum uint64) uint32 {
		sum += carried
		carried = sum >> digitBits
		return uint32(sum)
	}
}

// borrower returns a closure that is called with two digits at each place, from
// the lowest one on: it subtracts the second one and borrows from the next place.
func borrower() func(digit, less uint32) uint32 {
	var borrowed uint64
	return func(digit, less uint32) uint32 {
		difference := uint64(digit) - uint64(less) - borrowed
		borrowed = difference >> 63
		return uint32(difference)
	}
}

// compare returns -1, 0 or 1 if a is less than, equal to, or greater than b.
func compare(a, b natural) int {
	if len(a) != len(b) {
		return cmp.Compare(len(a), len(b))
	}
	for i := len(a) - 1; i >= 0; i-- {
		if a[i] != b[i] {
			return cmp.Compare(a[i], b[i])
		}
	}
	return 0
}

// add returns a + b.
func add(a, b natural) natural {
	sum := make(natural, max(len(a), len(b))+1)
	copy(sum, a)
	sum.addTimes(b, 1)
	return sum.trimmed()
}

// subtract returns a - b, for b up to a.
func subtract(a, b natural) natural {
	difference := make(natural, len(a))
	copy(difference, a)
	difference.subtractTimes(b, 1)
	return difference.trimmed()
}

// multiply returns a * b.
func multiply(a, b natural) natural {
	product := make(natural, len(a)+len(b))
	for i, d := range a {
		product[i:i+len(b)+1].addTimes(b, d)
	}
	return product.trimmed()
}

// divide returns the quotient and the rest of a and b, which is not 0.
func divide(a, b natural) (quotient, rest natural) {
	if compare(a, b) < 0 {
		return nil, slices.Clone(a)
	}
	// The factor brings the highest digit of the divisor to at least 2^31,
	// without which the digits of the quotient could not be guessed well.
	factor := uint32(1) << bits.LeadingZeros32(b[len(b)-1])
	divisor := multiply(b, natural{factor})
	rest = make(natural, len(a)+1)
	rest.addTimes(a, factor)
	quotient = make(natural, len(a)-len(b)+1)
steps:
	for i := len(quotient) - 1; i >= 0; i-- {
		part := rest[i : i+len(divisor)+1]
		quotient[i] = guess(part, divisor)
		if !part.subtractTimes(divisor, quotient[i]) {
			continue
		}
		for { // at most twice, see guess
			quotient[i]--
			if part.addTimes(divisor, 1) != 0 { // what was borrowed is paid back
				continue steps
			}
		}
	}
	rest.divideBy(factor)
	return quotient.trimmed(), rest.trimmed()
}

// guess returns the quotient of a part of a dividend, which has one place more
// than the divisor, by its highest digits. It is never too small, and as the
// highest digit of the divisor is at least 2^31, it is too great by at most 2.
func guess(part, divisor natural) uint32 {
	highest := part[len(divisor)-1:].word()
	return uint32(min(highest/divisor.at(len(divisor)-1), math.MaxUint32))
}

// gcd returns the greatest common divisor of a and b, and 0 if both are 0.
func gcd(a, b natural) natural {
	for len(b) > 0 && max(len(a), len(b)) > wordDigits {
		_, rest := divide(a, b)
		a, b = b, rest
	}
	if len(b) == 0 {
		return slices.Clone(a)
	}
	// The divisors of words are found much faster, and most numbers are small.
	n, m := a.word(), b.word()
	for m > 0 {
		n, m = m, n%m
	}
	return fromWord(n)
}

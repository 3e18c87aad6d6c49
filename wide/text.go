package wide

import (
	"slices"
	"strconv"
	"strings"

	"refuter/api"
)

// maxText is the greatest number of bytes of a text that is parsed.
const maxText = 5000

// Decimal digits are converted in groups, the longest that one digit can hold.
const (
	groupLen  = 9
	groupBase = 1_000_000_000
)

// Parse returns the integer with a decimal text.
func Parse(s string) (Int, api.Errno) {
	if len(s) > maxText {
		return Int{}, api.ErrLimit
	}
	decimals, negative := strings.CutPrefix(s, "-")
	if !canonical(decimals) || negative && decimals == "0" {
		return Int{}, api.ErrForm
	}
	return inRange(negative, fromDecimals(decimals))
}

// String returns the decimal text of the integer.
func (x Int) String() string {
	if len(x.size) == 0 {
		return "0"
	}
	backwards := x.size.decimals()
	if x.negative {
		backwards = append(backwards, '-')
	}
	slices.Reverse(backwards)
	return string(backwards)
}

// canonical reports whether a text consists of decimal digits without leading zeros.
func canonical(s string) bool {
	if s == "" || len(s) > 1 && s[0] == '0' {
		return false
	}
	for i := range len(s) {
		if s[i] < '0' || s[i] > '9' {
			return false
		}
	}
	return true
}

// fromDecimals returns the number with a canonical text.
func fromDecimals(s string) natural {
	var n natural
	for len(s) > 0 {
		end := (len(s)-1)%groupLen + 1    // only the first group may be shorter
		group, _ := strconv.Atoi(s[:end]) // it has digits only
		longer := make(natural, len(n)+1)
		longer[0] = uint32(group)
		longer.addTimes(n, groupBase)
		n, s = longer.trimmed(), s[end:]
	}
	return n
}

// decimals returns the decimal digits of the number, the lowest one first.
func (n natural) decimals() []byte {
	var decimals []byte
	for rest := slices.Clone(n); len(rest) > 0; rest = rest.trimmed() {
		group := rest.divideBy(groupBase)
		for range groupLen {
			decimals = append(decimals, '0'+byte(group%10))
			group /= 10
		}
	}
	for len(decimals) > 0 && decimals[len(decimals)-1] == '0' {
		decimals = decimals[:len(decimals)-1]
	}
	return decimals
}

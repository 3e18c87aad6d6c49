package rand

import (
	"math"
	"testing"
)

// TestTake (P5.2, P5.3): at most 64 numbers are taken, of which the last one
// counts in any case. No seed is known for which so many are refused, so that
// only the function itself can show it.
func TestTake(t *testing.T) {
	for _, c := range []struct{ first, want int }{
		{1, 1}, {2, 2}, {3, 3}, {62, 62}, {63, 63}, {64, 64}, {65, 64}, {66, 64}, {128, 64}, {math.MaxInt, 64},
	} {
		asked := 0
		numbers := func(yield func(number, next int) bool) {
			for asked = 1; yield(asked, -asked); asked++ {
			}
		}
		number, next := take(numbers, func(number int) bool { return number >= c.first })
		if number != c.want || next != -c.want || asked != c.want {
			t.Errorf("if the number %d is the first that fits, %d at %d is taken, of %d", c.first, number, next, asked)
		}
	}
}

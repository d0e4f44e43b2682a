// Package num: numbers that end; see doc/01-num.md.
package num

import (
	"math/bits"

	"tidewait/api"
)

func Fit(a int) int {
	return min(max(a, 0), api.Inf)
}

func Plus(a, b int) int {
	// Two numbers that fit are 2^61 at most, so their sum can't go round.
	return Fit(Fit(a) + Fit(b))
}

func Less(a, b int) int {
	a, b = Fit(a), Fit(b)
	// Ahead of the question whether a is Inf: nothing is more than Inf, not even Inf.
	if b == api.Inf || a < b {
		return 0
	}
	if a == api.Inf {
		return api.Inf
	}
	return a - b
}

func MulDiv(a, b, c int) int {
	high, low := bits.Mul64(uint64(Fit(a)), uint64(Fit(b)))
	through := uint64(Fit(c))
	// Such a quotient is 2^64 or more, which Div64 can't hold, or the divisor is 0.
	if high >= through {
		return api.Inf
	}
	quotient, _ := bits.Div64(high, low, through)
	// Held against Inf ahead of becoming an int, which would turn what is 2^63 or more negative.
	return int(min(quotient, api.Inf))
}

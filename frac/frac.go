// Package frac: fractions in lowest terms, for the layers that tell some.
package frac

import "tidewait/api"

// Lowest is top through bottom. That bottom is above 0, and that neither is beyond 2^62, is the caller's to see to.
func Lowest(top, bottom int) api.Frac {
	// What is below 0 has the divisors of what is above: so the sign stays at the top.
	common := divisor(max(top, -top), bottom)
	return api.Frac{Num: top / common, Den: bottom / common}
}

func divisor(a, b int) int {
	for b > 0 {
		a, b = b, a%b
	}
	return a
}

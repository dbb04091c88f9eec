package linear

import (
	"strings"

	"putlog/api"
	"putlog/integer"
)

// formed reports whether v is formed.
func formed(v api.Vector) bool {
	if len(v.Nums) > api.MaxColumns || v.Den == zero || !amount(v.Den) {
		return false
	}
	for _, num := range v.Nums {
		if !amount(num) {
			return false
		}
	}
	return true
}

// amount reports whether s is an integer as bounded says, and not negative.
func amount(s string) bool { return bounded(s) && !strings.HasPrefix(s, minus) }

// bounded reports whether s is a valid integer with at most as many digits as those of vectors and weights may have.
func bounded(s string) bool {
	return integer.Valid(s) && len(strings.TrimPrefix(s, minus)) <= api.MaxLinearDigits
}

// alike reports whether a and b are formed and have the same number of elements.
func alike(a, b api.Vector) bool {
	return formed(a) && formed(b) && len(a.Nums) == len(b.Nums)
}

// product returns a * b, or no integer if one of them is none, or the product has too many digits for one.
func product(a, b string) string {
	s, _ := integer.Mul(a, b)
	return s
}

// sum returns a + b, or no integer if one of them is none, or the sum has too many digits for one.
func sum(a, b string) string {
	s, _ := integer.Add(a, b)
	return s
}

// lowest returns the vector of these numbers, all of them divided by their greatest common divisor. It is not formed if one of them is no integer.
func lowest(nums []string, den string) api.Vector {
	all := divided(append(nums, den))
	return api.Vector{Nums: all[:len(nums)], Den: all[len(nums)]}
}

// divided returns the integers of l, which are not all 0, divided by their greatest common divisor; or strings that are no integers, if one of l is none.
func divided(l []string) []string {
	common := zero
	for _, s := range l {
		common, _ = integer.Gcd(common, s)
	}
	quotients := make([]string, len(l))
	for i, s := range l {
		quotients[i], _, _ = integer.Div(s, common)
	}
	return quotients
}

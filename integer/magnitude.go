package integer

import (
	"cmp"
	"slices"
	"sort"
	"strings"
)

const (
	groupDigits = 4
	base        = 10000
)

// magnitude is a number that is not negative: groups of four digits, the lowest one first, of which the last one is not 0. So 0 has no groups.
type magnitude []int

// fold returns what step makes of start and the elements of l, one after the other.
func fold[E, S any](l []E, start S, step func(S, E) S) S {
	for _, e := range l {
		start = step(start, e)
	}
	return start
}

// readMagnitude returns the number that has these digits.
func readMagnitude(digits string) magnitude {
	groups := make(magnitude, 0, len(digits)/groupDigits+1)
	for end := len(digits); end > 0; end -= groupDigits {
		group := []byte(digits[max(0, end-groupDigits):end])
		groups = append(groups, fold(group, 0, func(n int, digit byte) int { return 10*n + int(digit-'0') }))
	}
	return groups.trimmed()
}

// digits returns the digits of a, without leading zeros.
func (a magnitude) digits() string {
	if len(a) == 0 {
		return zero
	}
	text := make([]byte, groupDigits*len(a))
	at := len(text)
	for _, group := range a {
		for range groupDigits {
			at--
			text[at] = byte('0' + group%10)
			group /= 10
		}
	}
	return strings.TrimLeft(string(text), zero)
}

// trimmed returns a without groups of zeros at its end.
func (a magnitude) trimmed() magnitude {
	n := len(a)
	for n > 0 && a[n-1] == 0 {
		n--
	}
	return a[:n]
}

// carried returns the sum of the columns, each times its power of base: numbers of either sign, whose sum is not negative and has at most one group more than there are columns.
func carried(columns []int) magnitude {
	groups := make(magnitude, 0, len(columns)+1)
	carry := fold(columns, 0, func(carry, column int) int {
		sum := carry + column
		group := (sum%base + base) % base
		groups = append(groups, group)
		return (sum - group) / base
	})
	return append(groups, carry).trimmed()
}

// compare returns -1, 0 or 1: a is less than, equal to or greater than b.
func (a magnitude) compare(b magnitude) int {
	if len(a) != len(b) {
		return cmp.Compare(len(a), len(b))
	}
	for i := len(a) - 1; i >= 0; i-- {
		if a[i] != b[i] {
			return cmp.Compare(a[i], b[i])
		}
	}
	return 0
}

func (a magnitude) plus(b magnitude) magnitude {
	if len(a) < len(b) {
		a, b = b, a
	}
	columns := slices.Clone(a)
	for i, group := range b {
		columns[i] += group
	}
	return carried(columns)
}

// minus returns the difference of a and b, which is at most a.
func (a magnitude) minus(b magnitude) magnitude {
	columns := slices.Clone(a)
	for i, group := range b {
		columns[i] -= group
	}
	return carried(columns)
}

func (a magnitude) times(b magnitude) magnitude {
	columns := make([]int, len(a)+len(b))
	for i, x := range a {
		for j, y := range b {
			columns[i+j] += x * y
		}
	}
	return carried(columns)
}

// scaled returns the product of a and factor, which is from 0 to base.
func (a magnitude) scaled(factor int) magnitude {
	columns := slices.Clone(a)
	for i := range columns {
		columns[i] *= factor
	}
	return carried(columns)
}

// dividedBy returns the quotient and the remainder of a by b, which is not 0.
func (a magnitude) dividedBy(b magnitude) (magnitude, magnitude) {
	rest := slices.Clone(a)
	quotient := make(magnitude, max(0, len(a)-len(b)+1))
	for i := len(a) - len(b); i >= 0; i-- {
		upper := rest[i:].trimmed()
		quotient[i] = upper.quotientGroup(b)
		rest = append(rest[:i], upper.minus(b.scaled(quotient[i]))...)
	}
	return quotient.trimmed(), rest
}

// quotientGroup returns how many times a contains b, which is not 0; it is less than base times.
func (a magnitude) quotientGroup(b magnitude) int {
	// The uppermost two groups of b, and what a has above the others, leave only few values to be searched.
	cut := max(0, len(b)-2)
	upper, divisor := a.above(cut), b.above(cut)
	least, most := upper/(divisor+1), upper/divisor
	multiple := b.scaled
	return least + sort.Search(most-least, func(more int) bool {
		return multiple(least+more+1).compare(a) > 0
	})
}

// above returns the number that the groups of a from the index cut on stand for; there are at most three of them.
func (a magnitude) above(cut int) int {
	n := 0
	for i := len(a) - 1; i >= cut; i-- {
		n = n*base + a[i]
	}
	return n
}

// commonDivisor returns the greatest common divisor of a and b; it is 0 if both are.
func (a magnitude) commonDivisor(b magnitude) magnitude {
	for len(b) > 0 {
		_, rest := a.dividedBy(b)
		a, b = b, rest
	}
	return a
}

// root returns the greatest number whose square is at most a.
func (a magnitude) root() magnitude {
	root := make(magnitude, (len(a)+1)/2)
	for i := len(root) - 1; i >= 0; i-- {
		root[i] = sort.Search(base, func(group int) bool {
			root[i] = group
			return root.times(root).compare(a) > 0
		}) - 1
	}
	return root
}

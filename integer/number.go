package integer

import "strings"

// number is an integer: its sign, and its absolute value. It is never a negative 0.
type number struct {
	negative bool
	size     magnitude
}

// signed returns the number with the absolute value size, and with the sign, unless it is 0.
func signed(negative bool, size magnitude) number {
	return number{negative: negative && len(size) > 0, size: size}
}

// read returns the number s, or false if s is not valid.
func read(s string) (number, bool) {
	if !Valid(s) {
		return number{}, false
	}
	digits, negative := strings.CutPrefix(s, minus)
	return signed(negative, readMagnitude(digits)), true
}

// text returns the integer a, which need not be valid: it may have too many digits.
func (a number) text() string {
	if a.negative {
		return minus + a.size.digits()
	}
	return a.size.digits()
}

func (a number) isZero() bool { return len(a.size) == 0 }

func (a number) negated() number { return signed(!a.negative, a.size) }

// compare returns -1, 0 or 1: a is less than, equal to or greater than b.
func (a number) compare(b number) int {
	switch {
	case a.negative && b.negative:
		return b.size.compare(a.size)
	case a.negative:
		return -1
	case b.negative:
		return 1
	}
	return a.size.compare(b.size)
}

func (a number) plus(b number) number {
	switch {
	case a.negative == b.negative:
		return signed(a.negative, a.size.plus(b.size))
	case a.size.compare(b.size) >= 0:
		return signed(a.negative, a.size.minus(b.size))
	}
	return signed(b.negative, b.size.minus(a.size))
}

func (a number) minus(b number) number { return a.plus(b.negated()) }

func (a number) times(b number) number {
	return signed(a.negative != b.negative, a.size.times(b.size))
}

// dividedBy returns the quotient and the remainder, which is not negative, of a by b, which is not 0.
func (a number) dividedBy(b number) (number, number) {
	quotient, rest := a.size.dividedBy(b.size)
	if a.negative && len(rest) > 0 {
		// The remainder must not be negative as a is, so b is contained once more.
		quotient, rest = quotient.plus(magnitude{1}), b.size.minus(rest)
	}
	return signed(a.negative != b.negative, quotient), signed(false, rest)
}

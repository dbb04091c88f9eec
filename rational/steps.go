package rational

import (
	"strings"

	"putlog/api"
	"putlog/integer"
)

// operation makes an integer of two others, or returns an error.
type operation func(a string, b string) (string, api.Errno)

// step is a part of a computation with integers.
type step func() api.Errno

// chain returns the step that consists of these steps, one after the other; those after an error are skipped.
func chain(steps ...step) step {
	return func() api.Errno {
		err := api.OK
		for _, take := range steps {
			if err == api.OK {
				err = take()
			}
		}
		return err
	}
}

// built takes the steps, and then returns what they have made n and d, reduced; or ErrRational if one of the steps returned an error, n or d is not a valid integer, or d is 0.
func built(n, d *string, steps ...step) (api.Ratio, api.Errno) {
	build := chain(chain(steps...), positive(n, d), lowest(n, d))
	if build() != api.OK {
		return api.Ratio{}, api.ErrRational
	}
	return api.Ratio{Num: *n, Den: *d}, api.OK
}

// set returns the step that sets result to what operate makes of a and b, as they are by then.
func set(result *string, operate operation, a, b *string) step {
	return func() (err api.Errno) {
		*result, err = operate(*a, *b)
		return err
	}
}

// fractions returns the step that is an error if one of these is not a valid fraction.
func fractions(l ...api.Ratio) step {
	return func() api.Errno {
		for _, r := range l {
			if !Valid(r) {
				return api.ErrRational
			}
		}
		return api.OK
	}
}

// positive returns the step that makes d positive without changing the value of n / d. It is an error if d is 0.
func positive(n, d *string) step {
	nothing := zero
	negate := chain(set(n, integer.Sub, &nothing, n), set(d, integer.Sub, &nothing, d))
	return func() api.Errno {
		switch {
		case *d == zero:
			return api.ErrRational
		case integer.Compare(*d, zero) < 0:
			return negate()
		}
		return api.OK
	}
}

// lowest returns the step that divides n and d by their greatest common divisor. It is an error if one of them is not a valid integer.
func lowest(n, d *string) step {
	var common string
	return chain(set(&common, integer.Gcd, n, d), set(n, quotient, n, &common), set(d, quotient, d, &common))
}

func quotient(a, b string) (string, api.Errno) {
	q, _, err := integer.Div(a, b)
	return q, err
}

// summed returns what add makes of a and b when both have the same denominator; add is that of integers.
func summed(a, b api.Ratio, add operation) (api.Ratio, api.Errno) {
	var left, right, n, d string
	return built(&n, &d,
		fractions(a, b),
		set(&left, integer.Mul, &a.Num, &b.Den),
		set(&right, integer.Mul, &b.Num, &a.Den),
		set(&n, add, &left, &right),
		set(&d, integer.Mul, &a.Den, &b.Den))
}

// rounded returns a multiple of 1 / t, where t is 1 and as many zeros as places says: what choose makes of the quotient and the remainder of r times t.
func rounded(r api.Ratio, places int, choose operation) (api.Ratio, api.Errno) {
	if places < 0 || places > api.MaxPlaces {
		return api.Ratio{}, api.ErrRational
	}
	t := one + strings.Repeat(zero, places)
	var scaled, n, rest string
	divide := func() (err api.Errno) {
		n, rest, err = integer.Div(scaled, r.Den)
		return err
	}
	return built(&n, &t, fractions(r), set(&scaled, integer.Mul, &r.Num, &t), divide, set(&n, choose, &n, &rest))
}

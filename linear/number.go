package linear

import (
	"math/bits"
	"strconv"
	"strings"
)

const (
	// The numbers of a table are determinants, or sums of a few. By Hadamard's bound, twice the product of two of them is less than 10 to the power of 190, which has room in 10 words, with a sign.
	words      = 10
	wordBits   = 64
	minus      = "-"
	zero       = "0"
	chunk      = 18
	chunkPower = 1000000000000000000
)

// number is an integer in two's complement, the lowest word first. What has no room is dropped; a result that has room is right, whatever was dropped on the way.
type number [words]uint64

// read returns the number that s, a valid integer, stands for.
func read(s string) number {
	digits, negative := strings.CutPrefix(s, minus)
	var n number
	for i := range len(digits) {
		next := number{uint64(digits[i] - '0')}
		next.add(&n, 10, 0)
		n = next
	}
	if negative {
		return number{}.minus(n)
	}
	return n
}

// whole returns the number n.
func whole(n int) number { return weighted([]int{n}, []number{{1}}) }

// readAll returns the numbers that these valid integers stand for.
func readAll(l []string) []number {
	numbers := make([]number, len(l))
	for i, s := range l {
		numbers[i] = read(s)
	}
	return numbers
}

// text returns the integer that stands for a.
func (a number) text() string {
	switch a.sign() {
	case -1:
		return minus + number{}.minus(a).text()
	case 0:
		return zero
	}
	text := ""
	for a != (number{}) {
		digits := strconv.FormatUint(a.split(chunkPower), 10)
		text = strings.Repeat(zero, chunk-len(digits)) + digits + text
	}
	return strings.TrimLeft(text, zero)
}

// split divides a, which is not negative, by divisor, and returns the remainder.
func (a *number) split(divisor uint64) uint64 {
	var rest uint64
	for i := words - 1; i >= 0; i-- {
		a[i], rest = bits.Div64(rest, a[i], divisor)
	}
	return rest
}

// sign returns -1, 0 or 1: a is negative, 0 or positive.
func (a number) sign() int {
	switch {
	case a == number{}:
		return 0
	case a[words-1]>>(wordBits-1) == 1:
		return -1
	}
	return 1
}

func (a number) minus(b number) number {
	var borrow uint64
	for i := range a {
		a[i], borrow = bits.Sub64(a[i], b[i], borrow)
	}
	return a
}

func (a number) times(b number) number {
	var product number
	for i, word := range a {
		product.add(&b, word, i)
	}
	return product
}

// add adds to a the product of b and factor, moved up by so many words.
func (a *number) add(b *number, factor uint64, moved int) {
	if factor == 0 {
		return
	}
	var over uint64
	for i := moved; i < words; i++ {
		high, low := bits.Mul64(b[i-moved], factor)
		low, carry := bits.Add64(low, over, 0)
		over = high + carry
		a[i], carry = bits.Add64(a[i], low, 0)
		over += carry
	}
}

// weighted returns the sum of the numbers, each times its coefficient.
func weighted(coefs []int, numbers []number) number {
	var more, less number
	for i, coef := range coefs {
		if coef >= 0 {
			more.add(&numbers[i], uint64(coef), 0)
		} else {
			less.add(&numbers[i], uint64(-coef), 0)
		}
	}
	return more.minus(less)
}

// dividing returns the function that divides multiples of divisor, which is not 0, by it.
func dividing(divisor number) func(number) number {
	twos := divisor.twos()
	inverse := divisor.halved(twos).inverse()
	return func(multiple number) number { return multiple.halved(twos).times(inverse) }
}

// twos returns how often a, which is not 0, can be divided by 2.
func (a number) twos() int {
	i := 0
	for a[i] == 0 {
		i++
	}
	return i*wordBits + bits.TrailingZeros64(a[i])
}

// halved returns a divided by 2 so many times, rounded down.
func (a number) halved(times int) number {
	moved, shift := times/wordBits, times%wordBits
	sign := -(a[words-1] >> (wordBits - 1))
	above := func(i int) uint64 {
		if i < words {
			return a[i]
		}
		return sign
	}
	var half number
	for i := range half {
		half[i] = above(i+moved)>>shift | above(i+moved+1)<<(wordBits-shift)
	}
	return half
}

// inverse returns the number whose product with a, which is odd, is 1 when what has no room is dropped.
func (a number) inverse() number {
	// The square of an odd number is 1 in its lowest three bits, so a is right there; each step doubles the number of right bits.
	inverse := a
	for right := 3; right < words*wordBits; right *= 2 {
		inverse = inverse.times(number{2}.minus(a.times(inverse)))
	}
	return inverse
}

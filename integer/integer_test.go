package integer_test

import (
	"math"
	"math/big"
	"math/rand/v2"
	"strconv"
	"strings"
	"testing"

	"putlog/api"
	"putlog/integer"
)

// The functions in this part say the definitions of the chapter again, with numbers of package big.

func number(t *testing.T, s string) *big.Int {
	t.Helper()
	n, ok := new(big.Int).SetString(s, 10)
	if !ok || n.String() != s {
		t.Fatalf("%q is not an integer", s)
	}
	return n
}

func valid(s string) bool {
	n, ok := new(big.Int).SetString(s, 10)
	return ok && n.String() == s && fits(n)
}

func fits(n *big.Int) bool { return len(new(big.Int).Abs(n).String()) <= api.MaxDigits }

// power returns 10 to the power of e, plus d.
func power(e int, d int64) *big.Int {
	n := new(big.Int).Exp(big.NewInt(10), big.NewInt(int64(e)), nil)
	return n.Add(n, big.NewInt(d))
}

func random(r *rand.Rand, digits int) *big.Int {
	s := strconv.Itoa(1 + r.IntN(9))
	for range digits - 1 {
		s += strconv.Itoa(r.IntN(10))
	}
	n, _ := new(big.Int).SetString(s, 10)
	return n
}

// patched returns a number with so many digits, in runs of zeros, of nines and of any digits.
func patched(r *rand.Rand, digits int) *big.Int {
	s := strconv.Itoa(1 + r.IntN(9))
	for len(s) < digits {
		run := min(1+r.IntN(12), digits-len(s))
		switch r.IntN(3) {
		case 0:
			s += strings.Repeat("0", run)
		case 1:
			s += strings.Repeat("9", run)
		default:
			s += random(r, run).String()
		}
	}
	n, _ := new(big.Int).SetString(s, 10)
	return n
}

// some returns numbers of both signs: small ones, the neighbours of the powers of ten, of the ends of groups of digits, and of the greatest and least int, and numbers of any size.
func some(r *rand.Rand) []*big.Int {
	l := []*big.Int{big.NewInt(0)}
	add := func(n *big.Int) {
		if fits(n) && n.Sign() > 0 {
			l = append(l, n, new(big.Int).Neg(n))
		}
	}
	for n := range int64(12) {
		add(big.NewInt(n))
	}
	for _, e := range []int{2, 3, 4, 5, 7, 8, 9, 12, 18, 19, 20, 99, 100, 101, 196, 197, 198, 199, 200} {
		for d := int64(-1); d <= 1; d++ {
			add(power(e, d))
		}
	}
	for d := int64(-1); d <= 1; d++ {
		add(new(big.Int).Add(big.NewInt(math.MaxInt), big.NewInt(d)))
	}
	for _, digits := range []int{1, 2, 3, 4, 5, 6, 8, 9, 16, 17, 30, 50, 99, 100, 101, 102, 150, 199, 200} {
		add(random(r, digits))
		add(patched(r, digits))
	}
	return l
}

// pairs calls check for all pairs of some numbers, and for many more of random sizes.
func pairs(seed uint64, more int, check func(x, y *big.Int)) {
	r := rand.New(rand.NewPCG(3, seed))
	l := some(r)
	for _, x := range l {
		for _, y := range l {
			check(x, y)
		}
	}
	for range more {
		check(signed(r), signed(r))
	}
}

func signed(r *rand.Rand) *big.Int {
	n := patched(r, 1+r.IntN(api.MaxDigits))
	if r.IntN(2) == 0 {
		n.Neg(n)
	}
	return n
}

// invalid returns strings that are not valid integers.
func invalid() []string {
	long := strings.Repeat("1", api.MaxDigits)
	return []string{
		"", "-", "--1", "-0", "-00", "00", "01", "-01", "007", "000000000000", "+1", "+0", "+", "1-", "1+1",
		" 1", "1 ", " ", "1 000", "1_000", "1,0", "1.0", "1e3", "0x1", "0b1", "0o1", "1a", "a", "x",
		"\x00", "1\x00", "\x001", "\xff", "1\xff", "/", ":", "1/", "1:", "-/", "−1", "١", "１", "12\n",
		long + "1", "-" + long + "1", "0" + long, "-0" + long[1:], long[1:] + "x", long + "x", "-" + long + "-",
		strings.Repeat("9", 100000), strings.Repeat("0", 100000), strings.Repeat("-", 201), "-" + strings.Repeat("9", 201),
	}
}

func want(t *testing.T, name string, got string, err api.Errno, n *big.Int) {
	t.Helper()
	text, code := "", api.ErrInteger
	if n != nil && fits(n) {
		text, code = n.String(), api.OK
	}
	if got != text || err != code {
		t.Fatalf("%s = %q, %d; want %q, %d", name, got, err, text, code)
	}
}

// P3.1: Valid

func TestValid(t *testing.T) {
	nines := strings.Repeat("9", api.MaxDigits)
	for _, s := range []string{"0", "7", "-7", "10", "-10", "9", "1000", "9999", "10000", nines, "-" + nines, power(199, 0).String()} {
		if !integer.Valid(s) {
			t.Errorf("Valid(%q) = false", s)
		}
	}
	for _, s := range invalid() {
		if integer.Valid(s) {
			t.Errorf("Valid(%.210q) = true", s)
		}
	}
}

func TestValidOfAllShortStrings(t *testing.T) {
	for z := range 1 << 16 {
		for _, s := range []string{string([]byte{byte(z)}), string([]byte{byte(z), byte(z >> 8)}), string([]byte{'-', byte(z), byte(z >> 8)}), string([]byte{'1', byte(z), byte(z >> 8)})} {
			if integer.Valid(s) != valid(s) {
				t.Fatalf("Valid(%q) = %t", s, !valid(s))
			}
		}
	}
}

func TestValidOfAllShortStringsOfDigits(t *testing.T) {
	const signs = "-+01589 "
	l := []string{""}
	for at := 0; at < len(l); at++ {
		if integer.Valid(l[at]) != valid(l[at]) {
			t.Fatalf("Valid(%q) = %t", l[at], !valid(l[at]))
		}
		if len(l[at]) < 5 {
			for _, c := range signs {
				l = append(l, l[at]+string(c))
			}
		}
	}
}

// P3.1: FromInt and ToInt

func ints() []int {
	l := []int{0, 1, -1, 9999, 10000, -9999, -10000, math.MaxInt, math.MaxInt - 1, math.MinInt, math.MinInt + 1}
	r := rand.New(rand.NewPCG(3, 10))
	for bits := range 63 {
		for _, n := range []int{1 << bits, 1<<bits - 1, r.IntN(1 << bits)} {
			l = append(l, n, -n)
		}
	}
	return l
}

func TestFromInt(t *testing.T) {
	for _, n := range ints() {
		s := big.NewInt(int64(n)).String()
		if got := integer.FromInt(n); got != s || !integer.Valid(got) {
			t.Errorf("FromInt(%d) = %q", n, got)
		}
		if got, err := integer.ToInt(s); got != n || err != api.OK {
			t.Errorf("ToInt(%q) = %d, %d", s, got, err)
		}
	}
	for s, n := range map[string]int{"9223372036854775807": math.MaxInt, "-9223372036854775808": math.MinInt} {
		if got, err := integer.ToInt(s); got != n || err != api.OK || integer.FromInt(n) != s {
			t.Errorf("ToInt(%q) = %d, %d", s, got, err)
		}
	}
}

func TestToIntOutOfRange(t *testing.T) {
	l := append(invalid(), "9223372036854775808", "-9223372036854775809", "18446744073709551616", "18446744073709551617", "-18446744073709551615", "10000000000000000000", "-10000000000000000000")
	l = append(l, power(199, 0).String(), "-"+power(200, -1).String())
	for _, s := range l {
		if n, err := integer.ToInt(s); n != 0 || err != api.ErrInteger {
			t.Errorf("ToInt(%.30q) = %d, %d; want ErrInteger", s, n, err)
		}
	}
}

// P3.1: Compare, Add, Sub, Mul, Div, Gcd and Root

func TestOfTwo(t *testing.T) {
	pairs(1, 5000, func(x, y *big.Int) {
		a, b := x.String(), y.String()
		if c := integer.Compare(a, b); c != x.Cmp(y) {
			t.Fatalf("Compare(%s, %s) = %d", a, b, c)
		}
		s, err := integer.Add(a, b)
		want(t, "Add("+a+", "+b+")", s, err, new(big.Int).Add(x, y))
		s, err = integer.Sub(a, b)
		want(t, "Sub("+a+", "+b+")", s, err, new(big.Int).Sub(x, y))
		s, err = integer.Mul(a, b)
		want(t, "Mul("+a+", "+b+")", s, err, new(big.Int).Mul(x, y))
		s, err = integer.Gcd(a, b)
		want(t, "Gcd("+a+", "+b+")", s, err, new(big.Int).GCD(nil, nil, new(big.Int).Abs(x), new(big.Int).Abs(y)))
		wantDiv(t, x, y)
	})
}

func wantDiv(t *testing.T, x, y *big.Int) {
	t.Helper()
	a, b := x.String(), y.String()
	q, rest, err := integer.Div(a, b)
	var quotient, remainder *big.Int
	if y.Sign() != 0 {
		quotient, remainder = new(big.Int).DivMod(x, y, new(big.Int))
	}
	want(t, "the quotient of Div("+a+", "+b+")", q, err, quotient)
	want(t, "the remainder of Div("+a+", "+b+")", rest, err, remainder)
}

func TestOfAllSmallNumbers(t *testing.T) {
	for x := -40; x <= 40; x++ {
		for y := -40; y <= 40; y++ {
			wantDiv(t, big.NewInt(int64(x)), big.NewInt(int64(y)))
			a, b := integer.FromInt(x), integer.FromInt(y)
			for i, f := range []func(string, string) (string, api.Errno){integer.Add, integer.Sub, integer.Mul} {
				if s, err := f(a, b); s != integer.FromInt([]int{x + y, x - y, x * y}[i]) || err != api.OK {
					t.Fatalf("the function %d of %d and %d = %q, %d", i, x, y, s, err)
				}
			}
		}
	}
}

func TestExamples(t *testing.T) {
	for _, c := range []struct {
		name string
		f    func(string, string) (string, api.Errno)
		a, b string
		want string
	}{
		{"Add", integer.Add, "999", "1", "1000"}, {"Sub", integer.Sub, "1", "1000", "-999"}, {"Mul", integer.Mul, "-12", "12", "-144"},
		{"Gcd", integer.Gcd, "12", "-18", "6"}, {"Gcd", integer.Gcd, "0", "0", "0"}, {"Gcd", integer.Gcd, "0", "-7", "7"}, {"Gcd", integer.Gcd, "-7", "0", "7"},
		{"Sub", integer.Sub, "10000", "1", "9999"}, {"Sub", integer.Sub, "5", "5", "0"}, {"Add", integer.Add, "-5", "5", "0"}, {"Mul", integer.Mul, "-5", "0", "0"},
	} {
		if s, err := c.f(c.a, c.b); s != c.want || err != api.OK {
			t.Errorf("%s(%s, %s) = %q, %d; want %s", c.name, c.a, c.b, s, err, c.want)
		}
	}
	for _, c := range [][4]string{
		{"7", "2", "3", "1"}, {"-7", "2", "-4", "1"}, {"7", "-2", "-3", "1"}, {"-7", "-2", "4", "1"},
		{"-1", "5", "-1", "4"}, {"-1", "-5", "1", "4"}, {"1", "-5", "0", "1"}, {"0", "-5", "0", "0"}, {"-6", "3", "-2", "0"}, {"-6", "-3", "2", "0"},
	} {
		if q, rest, err := integer.Div(c[0], c[1]); q != c[2] || rest != c[3] || err != api.OK {
			t.Errorf("Div(%s, %s) = %q, %q, %d; want %s, %s", c[0], c[1], q, rest, err, c[2], c[3])
		}
	}
}

// The bound is that of the digits, whatever the sign is.
func TestResultsAtTheBound(t *testing.T) {
	most, one := power(200, -1).String(), "1"
	half, tooMuch := power(100, 0).String(), ""
	for i, c := range []struct {
		f          func(string, string) (string, api.Errno)
		a, b, want string
	}{
		{integer.Add, most, "0", most}, {integer.Add, most, "-1", power(200, -2).String()}, {integer.Add, most, "-" + most, "0"},
		{integer.Add, most, one, tooMuch}, {integer.Add, "-" + most, "-1", tooMuch}, {integer.Add, most, most, tooMuch},
		{integer.Sub, most, "-1", tooMuch}, {integer.Sub, "-" + most, one, tooMuch}, {integer.Sub, "-" + most, "-1", "-" + power(200, -2).String()},
		{integer.Sub, "-1", most, tooMuch}, {integer.Sub, "0", most, "-" + most}, {integer.Sub, "-" + most, most, tooMuch},
		{integer.Mul, most, one, most}, {integer.Mul, most, "-1", "-" + most}, {integer.Mul, most, "2", tooMuch}, {integer.Mul, most, "-2", tooMuch}, {integer.Mul, most, most, tooMuch},
		{integer.Mul, half, power(99, 0).String(), power(199, 0).String()}, {integer.Mul, half, "-" + power(99, 0).String(), "-" + power(199, 0).String()},
		{integer.Mul, half, half, tooMuch}, {integer.Mul, "-" + half, half, tooMuch},
		{integer.Gcd, most, "-" + most, most}, {integer.Gcd, "-" + most, "0", most},
	} {
		err := api.OK
		if c.want == tooMuch {
			err = api.ErrInteger
		}
		if s, e := c.f(c.a, c.b); s != c.want || e != err {
			t.Errorf("the case %d = %q, %d; want %q, %d", i, s, e, c.want, err)
		}
	}
	if q, rest, err := integer.Div("-"+most, "-1"); q != most || rest != "0" || err != api.OK {
		t.Errorf("Div by -1 = %q, %q, %d", q, rest, err)
	}
}

func TestInvalidArguments(t *testing.T) {
	two := []func(string, string) (string, api.Errno){integer.Add, integer.Sub, integer.Mul, integer.Gcd}
	for _, s := range invalid() {
		for _, other := range []string{"1", "0", "-3", power(200, -1).String(), s, "x"} {
			for i, c := range [][2]string{{s, other}, {other, s}} {
				if n := integer.Compare(c[0], c[1]); n != 0 {
					t.Errorf("Compare(%.20q, %.20q) = %d; want 0", c[0], c[1], n)
				}
				for j, f := range two {
					if r, err := f(c[0], c[1]); r != "" || err != api.ErrInteger {
						t.Errorf("the function %d of %.20q at %d = %q, %d; want ErrInteger", j, s, i, r, err)
					}
				}
				if q, r, err := integer.Div(c[0], c[1]); q != "" || r != "" || err != api.ErrInteger {
					t.Errorf("Div(%.20q, %.20q) = %q, %q, %d; want ErrInteger", c[0], c[1], q, r, err)
				}
			}
		}
		if r, err := integer.Root(s); r != "" || err != api.ErrInteger {
			t.Errorf("Root(%.20q) = %q, %d; want ErrInteger", s, r, err)
		}
	}
	for _, s := range []string{"0", "1", "-1", power(200, -1).String()} {
		if q, r, err := integer.Div(s, "0"); q != "" || r != "" || err != api.ErrInteger {
			t.Errorf("Div(%s, 0) = %q, %q, %d; want ErrInteger", s, q, r, err)
		}
	}
	for _, s := range []string{"-1", "-4", "-" + power(200, -1).String()} {
		if r, err := integer.Root(s); r != "" || err != api.ErrInteger {
			t.Errorf("Root(%s) = %q, %d; want ErrInteger", s, r, err)
		}
	}
}

// P3.2

// Whatever leads to a number, the string is the same.
func TestOneStringOfEachNumber(t *testing.T) {
	pairs(2, 1000, func(x, y *big.Int) {
		a, b := x.String(), y.String()
		if sum, err := integer.Add(a, b); err == api.OK {
			if s, _ := integer.Sub(sum, b); s != a {
				t.Fatalf("%s + %s - %s = %q", a, b, b, s)
			}
		}
		if product, err := integer.Mul(a, b); err == api.OK && b != "0" {
			if q, rest, _ := integer.Div(product, b); q != a || rest != "0" {
				t.Fatalf("%s * %s / %s = %q, %q", a, b, b, q, rest)
			}
		}
		for _, f := range []func() (string, api.Errno){
			func() (string, api.Errno) { return integer.Sub(a, a) },
			func() (string, api.Errno) { return integer.Mul(a, "0") },
			func() (string, api.Errno) { return integer.Mul("0", b) },
		} {
			if s, err := f(); s != "0" || err != api.OK {
				t.Fatalf("0 is written as %q, %d, for %s and %s", s, err, a, b)
			}
		}
	})
}

// P3.3

func TestLawsOfSumsAndProducts(t *testing.T) {
	r := rand.New(rand.NewPCG(3, 3))
	add, mul, sub := integer.Add, integer.Mul, integer.Sub
	for range 5000 {
		var l [3]string
		most := []int{20, 66, 100, 200}[r.IntN(4)]
		for i := range l {
			n := patched(r, 1+r.IntN(most))
			if r.IntN(2) == 0 {
				n.Neg(n)
			}
			l[i] = n.String()
		}
		a, b, c := l[0], l[1], l[2]
		same(t, chain(add, a, b), chain(add, b, a))
		same(t, chain(mul, a, b), chain(mul, b, a))
		same(t, chain(add, chain(add, a, b), c), chain(add, a, chain(add, b, c)))
		same(t, chain(mul, chain(mul, a, b), c), chain(mul, a, chain(mul, b, c)))
		same(t, chain(mul, a, chain(add, b, c)), chain(add, chain(mul, a, b), chain(mul, a, c)))
		same(t, chain(add, b, chain(sub, a, b)), a)
		same(t, chain(sub, a, b), chain(add, a, chain(mul, b, "-1")))
	}
}

// chain returns what f returns for a and b, or an empty string after an error.
func chain(f func(string, string) (string, api.Errno), a, b string) string {
	s, err := f(a, b)
	if err != api.OK {
		return ""
	}
	return s
}

// same checks that a and b are equal as long as nothing had too many digits.
func same(t *testing.T, a, b string) {
	t.Helper()
	if a != "" && b != "" && a != b {
		t.Fatalf("%s is not %s", a, b)
	}
}

// P3.4

func TestDivDivides(t *testing.T) {
	r := rand.New(rand.NewPCG(3, 4))
	check := func(q, d, rest *big.Int) {
		n := new(big.Int).Mul(q, d)
		n.Add(n, rest)
		if d.Sign() == 0 || !fits(n) || rest.CmpAbs(d) >= 0 {
			return
		}
		if s, u, err := integer.Div(n.String(), d.String()); s != q.String() || u != rest.String() || err != api.OK {
			t.Fatalf("Div(%s, %s) = %q, %q, %d; want %s, %s", n, d, s, u, err, q, rest)
		}
	}
	// Remainders at the bounds, and quotients with groups of zeros and of nines, are where an estimate of a group goes wrong.
	for _, d := range some(r) {
		for range 40 {
			q := signed(r)
			greatest := new(big.Int).Abs(d)
			greatest.Sub(greatest, big.NewInt(1))
			for _, rest := range []*big.Int{big.NewInt(0), big.NewInt(1), greatest, new(big.Int).Rsh(greatest, 1)} {
				check(q, d, rest)
			}
		}
	}
	for range 20000 {
		d, q := signed(r), patched(r, 1+r.IntN(120))
		if r.IntN(2) == 0 {
			q.Neg(q)
		}
		check(q, d, new(big.Int).Mod(patched(r, 200), d))
	}
}

// P3.5

func TestGcdOfCommonDivisors(t *testing.T) {
	r := rand.New(rand.NewPCG(3, 5))
	for range 1000 {
		common, x, y := patched(r, 1+r.IntN(100)).String(), patched(r, 1+r.IntN(100)).String(), signed(r).String()
		a, b := chain(integer.Mul, common, x), chain(integer.Mul, common, y)
		if a == "" || b == "" {
			continue
		}
		g, err := integer.Gcd(a, b)
		if err != api.OK || integer.Compare(g, "0") <= 0 {
			t.Fatalf("Gcd(%s, %s) = %q, %d", a, b, g, err)
		}
		for _, c := range [][2]string{{a, g}, {b, g}, {g, common}} {
			if _, rest, err := integer.Div(c[0], c[1]); rest != "0" || err != api.OK {
				t.Fatalf("%s does not divide %s", c[1], c[0])
			}
		}
		if other, _ := integer.Gcd(b, a); other != g {
			t.Fatalf("Gcd(%s, %s) = %q, and the other way round %q", a, b, g, other)
		}
	}
}

// Neighbours among the numbers of Fibonacci need the most divisions.
func TestGcdOfFibonacci(t *testing.T) {
	a, b, n := "0", "1", 0
	for next := "1"; next != ""; n++ {
		if g, err := integer.Gcd(a, b); g != "1" || err != api.OK {
			t.Fatalf("Gcd(%s, %s) = %q, %d", a, b, g, err)
		}
		a, b, next = b, next, chain(integer.Add, b, next)
	}
	if n < 900 {
		t.Errorf("only %d numbers have at most 200 digits", n)
	}
}

// P3.6

func TestRoot(t *testing.T) {
	for s, root := range map[string]string{"0": "0", "1": "1", "3": "1", "4": "2", "99": "9", "100": "10", "9999": "99", "10000": "100", "99999999": "9999", "100000000": "10000"} {
		if got, err := integer.Root(s); got != root || err != api.OK {
			t.Errorf("Root(%s) = %q, %d; want %s", s, got, err, root)
		}
	}
	for n := range 3000 {
		root := new(big.Int).Sqrt(big.NewInt(int64(n))).String()
		if got, err := integer.Root(integer.FromInt(n)); got != root || err != api.OK {
			t.Errorf("Root(%d) = %q, %d; want %s", n, got, err, root)
		}
	}
}

func TestRootOfAnySize(t *testing.T) {
	r := rand.New(rand.NewPCG(3, 6))
	for digits := 1; digits <= api.MaxDigits; digits++ {
		for _, n := range []*big.Int{random(r, digits), patched(r, digits), power(digits, -1), power(digits-1, 0)} {
			got, err := integer.Root(n.String())
			want(t, "Root("+n.String()+")", got, err, new(big.Int).Sqrt(n))
		}
	}
}

// The root changes exactly at the squares.
func TestRootAtSquares(t *testing.T) {
	r := rand.New(rand.NewPCG(3, 7))
	for digits := 1; digits <= api.MaxDigits/2; digits++ {
		for _, root := range []*big.Int{random(r, digits), patched(r, digits), power(digits, -1), power(digits-1, 0), power(digits-1, 1)} {
			square := new(big.Int).Mul(root, root)
			below := new(big.Int).Sub(root, big.NewInt(1))
			for d, wanted := range map[int64]*big.Int{-1: below, 0: root, 1: root} {
				n := new(big.Int).Add(square, big.NewInt(d))
				if !fits(n) {
					continue
				}
				got, err := integer.Root(n.String())
				want(t, "Root("+n.String()+")", got, err, wanted)
			}
		}
	}
}

// P3.7

func TestCompareIsTheOrder(t *testing.T) {
	pairs(8, 1000, func(x, y *big.Int) {
		a, b := x.String(), y.String()
		c := integer.Compare(a, b)
		if integer.Compare(b, a) != -c || (c == 0) != (a == b) {
			t.Fatalf("Compare(%s, %s) = %d, and the other way round %d", a, b, c, integer.Compare(b, a))
		}
		if difference, err := integer.Sub(a, b); err == api.OK && integer.Compare(difference, "0") != c {
			t.Fatalf("Compare(%s, %s) = %d, but the difference is %s", a, b, c, difference)
		}
		for _, n := range []string{"1", "-1", "9999", a, power(150, 0).String()} {
			more, most := chain(integer.Add, a, n), chain(integer.Add, b, n)
			if more != "" && most != "" && integer.Compare(more, most) != c {
				t.Fatalf("Compare(%s, %s) = %d; not if %s is added", a, b, c, n)
			}
		}
	})
}

func FuzzOfTwo(f *testing.F) {
	for _, c := range [][2]string{{"0", "-1"}, {"99999999", "10000"}, {"-7", "2"}, {"x", "1"}, {power(200, -1).String(), power(100, 0).String()}} {
		f.Add(c[0], c[1])
	}
	f.Fuzz(func(t *testing.T, a, b string) {
		if integer.Valid(a) != valid(a) {
			t.Fatalf("Valid(%q) = %t", a, !valid(a))
		}
		if !valid(a) || !valid(b) {
			if s, err := integer.Add(a, b); s != "" || err != api.ErrInteger {
				t.Fatalf("Add(%q, %q) = %q, %d", a, b, s, err)
			}
			return
		}
		x, y := number(t, a), number(t, b)
		s, err := integer.Add(a, b)
		want(t, "Add("+a+", "+b+")", s, err, new(big.Int).Add(x, y))
		s, err = integer.Mul(a, b)
		want(t, "Mul("+a+", "+b+")", s, err, new(big.Int).Mul(x, y))
		wantDiv(t, x, y)
	})
}

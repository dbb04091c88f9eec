package rational_test

import (
	"math"
	"math/big"
	"math/rand/v2"
	"strconv"
	"strings"
	"testing"

	"putlog/api"
	"putlog/rational"
)

// The functions in this part say the definitions of the chapter again, with numbers of package big.

func whole(n int64) *big.Int { return big.NewInt(n) }

func negative(n *big.Int) *big.Int { return new(big.Int).Neg(n) }

func fits(l ...*big.Int) bool {
	for _, n := range l {
		if len(new(big.Int).Abs(n).String()) > api.MaxDigits {
			return false
		}
	}
	return true
}

// integer returns the number s, or false if s is not a valid integer.
func integer(s string) (*big.Int, bool) {
	n, ok := new(big.Int).SetString(s, 10)
	return n, ok && n.String() == s && fits(n)
}

func valid(r api.Ratio) bool {
	n, ok := integer(r.Num)
	d, alsoOK := integer(r.Den)
	return ok && alsoOK && d.Sign() > 0 && new(big.Int).GCD(nil, nil, new(big.Int).Abs(n), d).Cmp(whole(1)) == 0
}

// of returns the fraction of n and d, reduced.
func of(n, d *big.Int) api.Ratio { return ratio(new(big.Rat).SetFrac(n, d)) }

func ratio(r *big.Rat) api.Ratio { return api.Ratio{Num: r.Num().String(), Den: r.Denom().String()} }

func value(t *testing.T, r api.Ratio) *big.Rat {
	t.Helper()
	if !valid(r) {
		t.Fatalf("%v is not a valid fraction", r)
	}
	v, _ := new(big.Rat).SetString(r.Num + "/" + r.Den)
	return v
}

func text(r api.Ratio) string {
	if r.Den == "1" {
		return r.Num
	}
	return r.Num + "/" + r.Den
}

func times(a, b *big.Int) *big.Int { return new(big.Int).Mul(a, b) }

// operation is one of those of two fractions: its function, and the integers that its definition names, the last two of which are n and d.
type operation struct {
	name string
	call func(api.Ratio, api.Ratio) (api.Ratio, api.Errno)
	made func(a, b *big.Rat) []*big.Int
}

func operations() []operation {
	sum := func(add func(z, x, y *big.Int) *big.Int) func(a, b *big.Rat) []*big.Int {
		return func(a, b *big.Rat) []*big.Int {
			left, right := times(a.Num(), b.Denom()), times(b.Num(), a.Denom())
			return []*big.Int{left, right, add(new(big.Int), left, right), times(a.Denom(), b.Denom())}
		}
	}
	return []operation{
		{"Add", rational.Add, sum((*big.Int).Add)},
		{"Sub", rational.Sub, sum((*big.Int).Sub)},
		{"Mul", rational.Mul, func(a, b *big.Rat) []*big.Int {
			return []*big.Int{times(a.Num(), b.Num()), times(a.Denom(), b.Denom())}
		}},
		{"Div", rational.Div, func(a, b *big.Rat) []*big.Int {
			return []*big.Int{times(a.Num(), b.Denom()), times(a.Denom(), b.Num())}
		}},
	}
}

func (o operation) check(t *testing.T, a, b *big.Rat) {
	t.Helper()
	made := o.made(a, b)
	d := made[len(made)-1]
	want, code := api.Ratio{}, api.ErrRational
	if fits(made...) && d.Sign() != 0 {
		want, code = of(made[len(made)-2], d), api.OK
	}
	got, err := o.call(ratio(a), ratio(b))
	if got != want || err != code {
		t.Fatalf("%s(%s, %s) = %v, %d; want %v, %d", o.name, a, b, got, err, want, code)
	}
}

// rounded returns the multiple of 1 / t next to r, below it or above it, or false if the operation is too large.
func rounded(r *big.Rat, places int, up bool) (api.Ratio, bool) {
	t := power(places, 0)
	scaled := times(r.Num(), t)
	if !fits(scaled) {
		return api.Ratio{}, false
	}
	quotient, rest := new(big.Int).DivMod(scaled, r.Denom(), new(big.Int))
	if up && rest.Sign() != 0 {
		quotient.Add(quotient, whole(1))
	}
	return of(quotient, t), true
}

func checkRounding(t *testing.T, r *big.Rat, places int) {
	t.Helper()
	for _, up := range []bool{false, true} {
		round, name := rational.Down, "Down"
		if up {
			round, name = rational.Up, "Up"
		}
		want, ok := rounded(r, places, up)
		code := api.OK
		if !ok {
			code = api.ErrRational
		}
		if got, err := round(ratio(r), places); got != want || err != code {
			t.Fatalf("%s(%s, %d) = %v, %d; want %v, %d", name, r, places, got, err, want, code)
		}
	}
}

// The functions in this part make arguments.

// power returns 10 to the power of e, plus d.
func power(e int, d int64) *big.Int {
	n := new(big.Int).Exp(whole(10), whole(int64(e)), nil)
	return n.Add(n, whole(d))
}

// random returns a positive number with so many digits.
func random(r *rand.Rand, digits int) *big.Int {
	s := strconv.Itoa(1 + r.IntN(9))
	for range digits - 1 {
		s += strconv.Itoa(r.IntN(10))
	}
	n, _ := new(big.Int).SetString(s, 10)
	return n
}

// fraction returns a fraction of numbers that have up to so many digits.
func fraction(r *rand.Rand, digits int) *big.Rat {
	n, d := random(r, 1+r.IntN(digits)), random(r, 1+r.IntN(digits))
	if r.IntN(2) == 0 {
		n.Neg(n)
	}
	return new(big.Rat).SetFrac(n, d)
}

// some returns fractions of both signs: 0, small ones, and some with a numerator or a denominator, or both, near powers of ten, among them those with the most digits.
func some(r *rand.Rand) []*big.Rat {
	l := []*big.Rat{new(big.Rat)}
	add := func(n, d *big.Int) {
		if fits(n, d) {
			v := new(big.Rat).SetFrac(n, d)
			l = append(l, v, new(big.Rat).Neg(v))
		}
	}
	for n := range int64(6) {
		for d := range int64(6) {
			add(whole(n+1), whole(d+1))
		}
	}
	for _, e := range []int{4, 19, 66, 99, 100, 101, 169, 170, 171, 199, 200} {
		for d := int64(-1); d <= 1; d++ {
			n := power(e, d)
			add(n, whole(1))
			add(whole(1), n)
			add(n, whole(7))
			add(whole(10), n)
			add(n, random(r, e))
			add(n, power(e, -1))
		}
	}
	for _, digits := range []int{10, 50, 100, 150, 200} {
		for range 2 {
			v := fraction(r, digits)
			add(v.Num(), v.Denom())
		}
	}
	return l
}

// pairs calls check for so many pairs of some fractions, and for as many of random sizes, most of which are small enough to be calculated with.
func pairs(seed uint64, many int, check func(a, b *big.Rat)) {
	r := rand.New(rand.NewPCG(4, seed))
	l := some(r)
	for range many {
		check(l[r.IntN(len(l))], l[r.IntN(len(l))])
		digits := []int{5, 50, 100, 110, 200}[r.IntN(5)]
		check(fraction(r, digits), fraction(r, digits))
	}
}

// notIntegers returns strings that are not valid integers.
func notIntegers() []string {
	long := strings.Repeat("1", api.MaxDigits)
	return []string{
		"", "-", "-0", "00", "01", "-01", "+1", "--1", " 1", "1 ", "1.0", "1/1", "/", "1e3", "0x1", "a", "\x00", "1\x00", "\xff", "１",
		long + "1", "-" + long + "1", "0" + long, strings.Repeat("9", 100000), strings.Repeat("0", 100000),
	}
}

// invalid returns fractions that are not valid.
func invalid() []api.Ratio {
	l := []api.Ratio{
		{}, {Num: "0"}, {Den: "1"}, {Num: "1"},
		{Num: "1", Den: "0"}, {Num: "0", Den: "0"}, {Num: "-1", Den: "0"},
		{Num: "1", Den: "-1"}, {Num: "3", Den: "-2"}, {Num: "-3", Den: "-2"}, {Num: "0", Den: "-1"},
		{Num: "0", Den: "2"}, {Num: "0", Den: "100"}, {Num: "2", Den: "2"}, {Num: "-2", Den: "2"}, {Num: "6", Den: "4"}, {Num: "-6", Den: "4"}, {Num: "4", Den: "2"},
		{Num: power(199, 0).String(), Den: "2"}, {Num: "5", Den: power(199, 0).String()}, {Num: power(200, -1).String(), Den: power(200, -1).String()},
		{Num: power(200, 0).String(), Den: "1"}, {Num: "1", Den: power(200, 0).String()},
	}
	for _, s := range notIntegers() {
		l = append(l, api.Ratio{Num: s, Den: "1"}, api.Ratio{Num: "1", Den: s}, api.Ratio{Num: s, Den: s})
	}
	return l
}

func refused(t *testing.T, name string, r api.Ratio, err api.Errno) {
	t.Helper()
	if r != (api.Ratio{}) || err != api.ErrRational {
		t.Errorf("%s = %.30v, %d; want ErrRational", name, r, err)
	}
}

// parsed returns the fraction that Print would return s for.
func parsed(s string) api.Ratio {
	num, den, divided := strings.Cut(s, "/")
	if !divided {
		den = "1"
	}
	return api.Ratio{Num: num, Den: den}
}

// P4.1: Valid, Make and Of

func TestValid(t *testing.T) {
	most := power(200, -1).String()
	for _, r := range []api.Ratio{{Num: "0", Den: "1"}, {Num: "1", Den: "1"}, {Num: "-3", Den: "2"}, {Num: "1", Den: most}, {Num: most, Den: "1"}, {Num: "-" + most, Den: power(200, -2).String()}} {
		if !rational.Valid(r) {
			t.Errorf("Valid(%v) = false", r)
		}
	}
	for _, r := range invalid() {
		if rational.Valid(r) {
			t.Errorf("Valid(%.210v) = true", r)
		}
	}
	for n := -30; n <= 30; n++ {
		for d := -30; d <= 30; d++ {
			if r := (api.Ratio{Num: strconv.Itoa(n), Den: strconv.Itoa(d)}); rational.Valid(r) != valid(r) {
				t.Errorf("Valid(%v) = %t", r, !valid(r))
			}
		}
	}
}

func checkMake(t *testing.T, n, d *big.Int) {
	t.Helper()
	got, err := rational.Make(n.String(), d.String())
	if d.Sign() == 0 {
		refused(t, "Make("+n.String()+", 0)", got, err)
	} else if want := of(n, d); got != want || err != api.OK {
		t.Fatalf("Make(%s, %s) = %v, %d; want %v", n, d, got, err, want)
	}
}

func TestMake(t *testing.T) {
	for n := int64(-40); n <= 40; n++ {
		for d := int64(-40); d <= 40; d++ {
			checkMake(t, whole(n), whole(d))
		}
	}
	r := rand.New(rand.NewPCG(4, 1))
	most := power(200, -1)
	for range 300 {
		n, d, common := random(r, 1+r.IntN(100)), random(r, 1+r.IntN(100)), random(r, 1+r.IntN(100))
		n, d = times(n, common), times(d, common)
		for _, c := range [][2]*big.Int{{n, d}, {n, negative(d)}, {negative(n), d}, {negative(n), negative(d)}, {whole(0), d}, {most, d}, {n, negative(most)}} {
			checkMake(t, c[0], c[1])
		}
	}
	for _, c := range [][2]*big.Int{{most, most}, {most, negative(most)}, {negative(most), negative(most)}, {whole(0), most}, {whole(0), negative(most)}, {most, whole(-1)}, {whole(0), whole(0)}, {most, whole(0)}} {
		checkMake(t, c[0], c[1])
	}
}

func TestMakeOfInvalid(t *testing.T) {
	for _, s := range notIntegers() {
		for _, c := range [][2]string{{s, "1"}, {"1", s}, {s, s}, {s, "-2"}, {"-2", s}, {s, "0"}, {"0", s}} {
			r, err := rational.Make(c[0], c[1])
			refused(t, "Make of "+strconv.Quote(c[0][:min(30, len(c[0]))])+" and "+strconv.Quote(c[1][:min(30, len(c[1]))]), r, err)
		}
	}
}

func TestOf(t *testing.T) {
	l := []int{0, 1, -1, 2, -2, 6, -4, -5, 9, 12, 3600, math.MaxInt, -math.MaxInt, math.MaxInt - 1, math.MinInt, math.MinInt + 1, math.MinInt / 2}
	for _, num := range l {
		for _, den := range l {
			got, err := rational.Of(num, den)
			made, makeErr := rational.Make(strconv.Itoa(num), strconv.Itoa(den))
			if got != made || err != makeErr {
				t.Errorf("Of(%d, %d) = %v, %d; Make returns %v, %d", num, den, got, err, made, makeErr)
			}
			if den == 0 {
				refused(t, "Of("+strconv.Itoa(num)+", 0)", got, err)
			} else if want := of(whole(int64(num)), whole(int64(den))); got != want || err != api.OK {
				t.Errorf("Of(%d, %d) = %v, %d; want %v", num, den, got, err, want)
			}
		}
	}
	if r, err := rational.Of(math.MinInt, -1); r != (api.Ratio{Num: "9223372036854775808", Den: "1"}) || err != api.OK {
		t.Errorf("Of(%d, -1) = %v, %d", math.MinInt, r, err)
	}
}

// P4.1: Add, Sub, Mul and Div

func TestOperations(t *testing.T) {
	pairs(2, 1500, func(a, b *big.Rat) {
		for _, o := range operations() {
			o.check(t, a, b)
		}
	})
}

func TestOperationsOfAllSmallFractions(t *testing.T) {
	var l []*big.Rat
	for n := int64(-6); n <= 6; n++ {
		for d := int64(1); d <= 6; d++ {
			l = append(l, big.NewRat(n, d))
		}
	}
	for _, a := range l {
		for _, b := range l {
			for _, o := range operations() {
				o.check(t, a, b)
			}
		}
	}
}

func TestExamples(t *testing.T) {
	for _, c := range []struct {
		name string
		f    func(api.Ratio, api.Ratio) (api.Ratio, api.Errno)
		a, b string
		want string
	}{
		{"Add", rational.Add, "1/2", "1/3", "5/6"}, {"Sub", rational.Sub, "1/2", "1/2", "0"}, {"Mul", rational.Mul, "-2/3", "3/4", "-1/2"},
		{"Div", rational.Div, "1/2", "-1/4", "-2"}, {"Div", rational.Div, "0", "-5/3", "0"}, {"Mul", rational.Mul, "0", "-5/3", "0"},
	} {
		if r, err := c.f(parsed(c.a), parsed(c.b)); r != parsed(c.want) || err != api.OK {
			t.Errorf("%s(%s, %s) = %v, %d; want %s", c.name, c.a, c.b, r, err, c.want)
		}
	}
	for c, want := range map[[2]int]string{{6, -4}: "-3/2", {0, -5}: "0", {-6, -4}: "3/2", {7, 1}: "7"} {
		if r, err := rational.Of(c[0], c[1]); r != parsed(want) || err != api.OK {
			t.Errorf("Of(%d, %d) = %v, %d; want %s", c[0], c[1], r, err, want)
		}
	}
	for _, a := range []string{"1", "0", "-1/2"} {
		r, err := rational.Div(parsed(a), parsed("0"))
		refused(t, "Div("+a+", 0)", r, err)
	}
	r, err := rational.Of(1, 0)
	refused(t, "Of(1, 0)", r, err)
}

// An operation is too large if an integer that its definition names is, even if its result would not be.
func TestOperationsAtTheBound(t *testing.T) {
	e := func(n int) string { return power(n, 0).String() }
	most := power(200, -1).String()
	for _, c := range []struct {
		name string
		f    func(api.Ratio, api.Ratio) (api.Ratio, api.Errno)
		a, b string
		want string
	}{
		{"Mul", rational.Mul, e(150), e(150), ""}, {"Mul", rational.Mul, e(150), e(49), e(199)}, {"Mul", rational.Mul, e(150), e(50), ""},
		{"Mul", rational.Mul, e(150), "1/" + e(150), "1"}, {"Mul", rational.Mul, e(150) + "/7", "7/" + e(150), "1"},
		{"Mul", rational.Mul, "1/" + e(100), "1/" + e(100), ""}, {"Mul", rational.Mul, "1/" + e(100), "-1/" + e(99), "-1/" + e(199)},
		{"Mul", rational.Mul, most + "/2", "2/3", ""}, {"Mul", rational.Mul, most, "0", "0"}, {"Mul", rational.Mul, "1/" + most, "0", "0"}, {"Mul", rational.Mul, "1/" + most, "-1", "-1/" + most},
		{"Div", rational.Div, e(150), e(150), "1"}, {"Div", rational.Div, "1/" + e(150), "1/" + e(150), "1"}, {"Div", rational.Div, "1/" + e(150), e(150), ""},
		{"Div", rational.Div, most + "/2", most + "/2", ""}, {"Div", rational.Div, most, "1/" + most, ""}, {"Div", rational.Div, most, most, "1"}, {"Div", rational.Div, "0", most, "0"},
		{"Div", rational.Div, "0", "1/" + most, "0"}, {"Div", rational.Div, "1/2", most, ""}, {"Div", rational.Div, most, "-1/2", ""}, {"Div", rational.Div, most, "-1", "-" + most},
		{"Add", rational.Add, most, "1", ""}, {"Add", rational.Add, "-" + most, "-1", ""}, {"Add", rational.Add, most, "-1", power(200, -2).String()}, {"Add", rational.Add, most, "0", most},
		{"Add", rational.Add, "1/" + e(100), "-1/" + e(100), ""}, {"Add", rational.Add, "1/" + e(99), "-1/" + e(99), "0"}, {"Add", rational.Add, most, "1/2", ""}, {"Add", rational.Add, "1/2", most, ""},
		{"Add", rational.Add, e(199), "1/" + most, ""}, {"Add", rational.Add, "0", "1/" + most, "1/" + most},
		{"Sub", rational.Sub, most, "-1", ""}, {"Sub", rational.Sub, "-" + most, "1", ""}, {"Sub", rational.Sub, most, most, "0"}, {"Sub", rational.Sub, "-" + most, "-1", "-" + power(200, -2).String()},
		{"Sub", rational.Sub, "1/" + e(100), "1/" + e(100), ""}, {"Sub", rational.Sub, "1/" + e(99), "1/" + e(99), "0"}, {"Sub", rational.Sub, "1/2", most, ""}, {"Sub", rational.Sub, "0", most, "-" + most},
	} {
		r, err := c.f(parsed(c.a), parsed(c.b))
		if c.want == "" {
			refused(t, c.name+"("+c.a+", "+c.b+")", r, err)
		} else if r != parsed(c.want) || err != api.OK {
			t.Errorf("%s(%s, %s) = %v, %d; want %s", c.name, c.a, c.b, r, err, c.want)
		}
	}
}

func TestOperationsOfInvalid(t *testing.T) {
	third := parsed("1/3")
	for _, r := range invalid() {
		for _, o := range operations() {
			for i, c := range [][2]api.Ratio{{r, third}, {third, r}, {r, r}, {r, parsed("0")}, {parsed("0"), r}} {
				got, err := o.call(c[0], c[1])
				refused(t, o.name+" "+strconv.Itoa(i), got, err)
			}
		}
		for _, places := range []int{0, 3, api.MaxPlaces, -1, api.MaxPlaces + 1} {
			down, err := rational.Down(r, places)
			refused(t, "Down", down, err)
			up, err := rational.Up(r, places)
			refused(t, "Up", up, err)
		}
		for _, other := range []api.Ratio{third, parsed("-1/3"), parsed("0"), parsed("99"), r} {
			if c, d := rational.Compare(r, other), rational.Compare(other, r); c != 0 || d != 0 {
				t.Errorf("Compare of %.30v and %v = %d; the other way round %d", r, other, c, d)
			}
		}
		if s := rational.Print(r); s != "" {
			t.Errorf("Print(%.30v) = %q", r, s)
		}
	}
}

// P4.1: Compare

func TestCompare(t *testing.T) {
	for _, c := range []struct {
		a, b string
		want int
	}{
		{"1/3", "33333/100000", 1}, {"-1/2", "-1/3", -1}, {"-1/3", "-1/2", 1}, {"0", "0", 0}, {"0", "-1/9", 1}, {"0", "1/9", -1}, {"-1/9", "1/9", -1},
		{"2", "3/2", 1}, {"-2", "-3/2", -1}, {"1", "3/2", -1}, {"3/2", "3/2", 0}, {"9", "10", -1}, {"-9", "-10", 1}, {"10/3", "7/2", -1}, {"355/113", "22/7", -1}, {"1/9", "1/10", 1},
	} {
		if got := rational.Compare(parsed(c.a), parsed(c.b)); got != c.want {
			t.Errorf("Compare(%s, %s) = %d; want %d", c.a, c.b, got, c.want)
		}
	}
	pairs(3, 3000, func(a, b *big.Rat) {
		if got := rational.Compare(ratio(a), ratio(b)); got != a.Cmp(b) {
			t.Fatalf("Compare(%s, %s) = %d", a, b, got)
		}
	})
}

// Fractions with the most digits, whose difference is the least one that is not 0.
func TestCompareOfNeighbours(t *testing.T) {
	r := rand.New(rand.NewPCG(4, 4))
	for range 50 {
		n, d := random(r, api.MaxDigits), random(r, api.MaxDigits)
		common := new(big.Int).GCD(nil, nil, n, d)
		n.Div(n, common)
		d.Div(d, common)
		// n * y - d * x is 1, so the difference of n / d and x / y is 1 / (d * y).
		y := new(big.Int).ModInverse(n, d)
		x := times(n, y)
		x.Sub(x, whole(1))
		x.Div(x, d)
		a, b := api.Ratio{Num: n.String(), Den: d.String()}, api.Ratio{Num: x.String(), Den: y.String()}
		checkLess(t, b, a)
		a.Num, b.Num = negative(n).String(), negative(x).String()
		checkLess(t, a, b)
	}
}

func checkLess(t *testing.T, less, more api.Ratio) {
	t.Helper()
	if !valid(less) || !valid(more) {
		t.Fatalf("%v or %v is not valid", less, more)
	}
	if c, d := rational.Compare(less, more), rational.Compare(more, less); c != -1 || d != 1 {
		t.Fatalf("Compare(%v, %v) = %d; the other way round %d", less, more, c, d)
	}
}

// Neighbours among the numbers of Fibonacci need the most divisions.
func TestCompareOfFibonacci(t *testing.T) {
	a, b, c := whole(1), whole(1), whole(2)
	for n := 0; fits(c); n++ {
		// The quotients of neighbours are by turns less and greater than the ones that follow.
		less, more := of(a, b), of(b, c)
		if n%2 == 0 {
			less, more = more, less
		}
		if n < 40 || n%40 > 37 || len(c.String()) == api.MaxDigits {
			checkLess(t, less, more)
			checkSame(t, less)
		}
		a, b, c = b, c, new(big.Int).Add(b, c)
	}
}

func checkSame(t *testing.T, r api.Ratio) {
	t.Helper()
	if got := rational.Compare(r, r); got != 0 {
		t.Fatalf("Compare(%v, itself) = %d", r, got)
	}
}

// P4.1: Down and Up

func TestRounding(t *testing.T) {
	r := rand.New(rand.NewPCG(4, 5))
	for _, v := range some(r) {
		for places := 0; places <= api.MaxPlaces; places++ {
			checkRounding(t, v, places)
		}
	}
	for n := int64(-40); n <= 40; n++ {
		for d := int64(1); d <= 20; d++ {
			for places := range 4 {
				checkRounding(t, big.NewRat(n, d), places)
			}
		}
	}
	for range 1000 {
		checkRounding(t, fraction(r, api.MaxDigits), r.IntN(api.MaxPlaces+1))
	}
}

func TestRoundingExamples(t *testing.T) {
	for _, c := range []struct {
		r        string
		places   int
		down, up string
	}{
		{"1/3", 2, "33/100", "17/50"}, {"-1/3", 2, "-17/50", "-33/100"}, {"7", 3, "7", "7"}, {"-7", 0, "-7", "-7"}, {"0", 30, "0", "0"},
		{"1/3", 0, "0", "1"}, {"-1/3", 0, "-1", "0"}, {"1/8", 3, "1/8", "1/8"}, {"1/8", 2, "3/25", "13/100"}, {"-1/8", 2, "-13/100", "-3/25"}, {"5/2", 0, "2", "3"},
		{"1/" + power(30, 0).String(), 30, "1/" + power(30, 0).String(), "1/" + power(30, 0).String()},
		{"1/" + power(31, 0).String(), 30, "0", "1/" + power(30, 0).String()}, {"-1/" + power(199, 0).String(), 0, "-1", "0"},
	} {
		if got, err := rational.Down(parsed(c.r), c.places); got != parsed(c.down) || err != api.OK {
			t.Errorf("Down(%s, %d) = %v, %d; want %s", c.r, c.places, got, err, c.down)
		}
		if got, err := rational.Up(parsed(c.r), c.places); got != parsed(c.up) || err != api.OK {
			t.Errorf("Up(%s, %d) = %v, %d; want %s", c.r, c.places, got, err, c.up)
		}
	}
}

func TestRoundingRefused(t *testing.T) {
	e := func(n int) api.Ratio { return parsed(power(n, 0).String()) }
	for _, c := range []struct {
		r      api.Ratio
		places int
	}{
		{parsed("1/3"), -1}, {parsed("1/3"), 31}, {parsed("1/3"), math.MinInt}, {parsed("1/3"), math.MaxInt}, {parsed("0"), -1}, {parsed("0"), 31}, {parsed("7"), 1 << 32}, {parsed("7"), -1 << 32},
		{e(199), 1}, {e(170), 30}, {parsed("-" + e(170).Num), 30}, {api.Ratio{Num: power(200, -1).String(), Den: power(200, -2).String()}, 1},
	} {
		r, err := rational.Down(c.r, c.places)
		refused(t, "Down to "+strconv.Itoa(c.places), r, err)
		r, err = rational.Up(c.r, c.places)
		refused(t, "Up to "+strconv.Itoa(c.places), r, err)
	}
	for r, places := range map[api.Ratio]int{e(199): 0, e(170): 29, e(169): 30, parsed("1/" + e(199).Num): 30} {
		checkRounding(t, value(t, r), places)
		if _, err := rational.Down(r, places); err != api.OK {
			t.Errorf("Down(%v, %d): %d", r, places, err)
		}
	}
}

// P4.2

func TestResultsAreValid(t *testing.T) {
	check := func(r api.Ratio, err api.Errno) {
		if err == api.OK && !(valid(r) && rational.Valid(r)) {
			t.Fatalf("%v is not valid", r)
		}
	}
	pairs(6, 300, func(a, b *big.Rat) {
		x, y := ratio(a), ratio(b)
		for _, o := range operations() {
			check(o.call(x, y))
		}
		check(rational.Make(x.Num, y.Num))
		check(rational.Make(x.Num, y.Den))
		check(rational.Down(x, 2))
		check(rational.Up(x, 2))
		check(rational.Parse(text(x)))
	})
}

func TestEqualFractionsHaveTheSameValue(t *testing.T) {
	r := rand.New(rand.NewPCG(4, 7))
	l := some(r)
	for range 3000 {
		// Near one another in the list are fractions that differ in their signs, or in few digits.
		at := r.IntN(len(l))
		a, b := l[at], l[(at+r.IntN(8))%len(l)]
		x, y := ratio(a), ratio(b)
		same := a.Cmp(b) == 0
		if (x == y) != same || (rational.Print(x) == rational.Print(y)) != same || (rational.Compare(x, y) == 0) != same {
			t.Fatalf("%s and %s: the same value is %t", rational.Print(x), rational.Print(y), same)
		}
	}
	// However a value is written or calculated, its fraction is the same.
	for range 300 {
		v, factor := fraction(r, 60), fraction(r, 60).Num()
		want := ratio(v)
		for i, made := range []func() (api.Ratio, api.Errno){
			func() (api.Ratio, api.Errno) {
				return rational.Make(times(v.Num(), factor).String(), times(v.Denom(), factor).String())
			},
			func() (api.Ratio, api.Errno) {
				return rational.Div(parsed(v.Num().String()), parsed(v.Denom().String()))
			},
			func() (api.Ratio, api.Errno) { return rational.Add(want, parsed("0")) },
			func() (api.Ratio, api.Errno) { return rational.Mul(parsed("1"), want) },
		} {
			if got, err := made(); got != want || err != api.OK {
				t.Fatalf("%d: %v, %d; want %v", i, got, err, want)
			}
		}
	}
}

// P4.3

// result is a fraction, unless something was too large.
type result struct {
	r  api.Ratio
	ok bool
}

func do(f func(api.Ratio, api.Ratio) (api.Ratio, api.Errno), a, b result) result {
	if !a.ok || !b.ok {
		return result{}
	}
	r, err := f(a.r, b.r)
	return result{r, err == api.OK}
}

func TestFieldLaws(t *testing.T) {
	r := rand.New(rand.NewPCG(4, 8))
	add, sub, mul, div := rational.Add, rational.Sub, rational.Mul, rational.Div
	compared := map[string]int{}
	same := func(law string, a, b result) {
		t.Helper()
		if !a.ok || !b.ok {
			return
		}
		compared[law]++
		if a != b {
			t.Fatalf("%s: %v is not %v", law, a.r, b.r)
		}
	}
	nothing, one := result{parsed("0"), true}, result{parsed("1"), true}
	for i := range 1000 {
		digits := []int{2, 10, 30, 50, 100}[i%5]
		a, b, c := result{ratio(fraction(r, digits)), true}, result{ratio(fraction(r, digits)), true}, result{ratio(fraction(r, digits)), true}
		same("sums are commutative", do(add, a, b), do(add, b, a))
		same("products are commutative", do(mul, a, b), do(mul, b, a))
		same("sums are associative", do(add, do(add, a, b), c), do(add, a, do(add, b, c)))
		same("products are associative", do(mul, do(mul, a, b), c), do(mul, a, do(mul, b, c)))
		same("products are distributive", do(mul, a, do(add, b, c)), do(add, do(mul, a, b), do(mul, a, c)))
		same("subtracting undoes adding", do(sub, do(add, a, b), b), a)
		same("adding undoes subtracting", do(add, do(sub, a, b), b), a)
		same("dividing undoes multiplying", do(div, do(mul, a, b), b), a)
		same("multiplying undoes dividing", do(mul, do(div, a, b), b), a)
		same("a minus a is 0", do(sub, a, a), nothing)
		same("a divided by a is 1", do(div, a, a), one)
		same("a plus 0 is a", do(add, a, nothing), a)
		same("a times 1 is a", do(mul, a, one), a)
		same("a times 0 is 0", do(mul, a, nothing), nothing)
	}
	for law, n := range compared {
		if n < 300 {
			t.Errorf("%s: only %d cases", law, n)
		}
	}
	if len(compared) != 14 {
		t.Errorf("only %d laws were tried", len(compared))
	}
}

// P4.4

func TestCompareIsATotalOrder(t *testing.T) {
	pairs(9, 500, func(a, b *big.Rat) {
		x, y := ratio(a), ratio(b)
		c := rational.Compare(x, y)
		if rational.Compare(y, x) != -c || (c == 0) != (x == y) || rational.Compare(x, x) != 0 {
			t.Fatalf("Compare(%v, %v) = %d, and the other way round %d", x, y, c, rational.Compare(y, x))
		}
		if difference, err := rational.Sub(x, y); err == api.OK && rational.Compare(difference, parsed("0")) != c {
			t.Fatalf("Compare(%v, %v) = %d, but the difference is %v", x, y, c, difference)
		}
	})
	r := rand.New(rand.NewPCG(4, 10))
	for i := range 500 {
		digits := []int{1, 2, 60, 200}[i%4]
		a, b, c := ratio(fraction(r, digits)), ratio(fraction(r, digits)), ratio(fraction(r, digits))
		if x, y := rational.Compare(a, b), rational.Compare(b, c); x == y && rational.Compare(a, c) != x {
			t.Fatalf("Compare is %d for %v and %v, and for this and %v, but not for the outer ones", x, a, b, c)
		}
	}
}

func TestCompareKeptByAddingAndMultiplying(t *testing.T) {
	r := rand.New(rand.NewPCG(4, 11))
	for i := range 1000 {
		digits := []int{1, 2, 30, 60, 100}[i%5]
		a, b, c := ratio(fraction(r, digits)), ratio(fraction(r, digits)), ratio(fraction(r, digits))
		want := rational.Compare(a, b)
		x, y := do(rational.Add, result{a, true}, result{c, true}), do(rational.Add, result{b, true}, result{c, true})
		if x.ok && y.ok && rational.Compare(x.r, y.r) != want {
			t.Fatalf("Compare(%v, %v) = %d; not if %v is added", a, b, want, c)
		}
		c.Num = strings.TrimPrefix(c.Num, "-")
		x, y = do(rational.Mul, result{a, true}, result{c, true}), do(rational.Mul, result{b, true}, result{c, true})
		if x.ok && y.ok && rational.Compare(x.r, y.r) != want {
			t.Fatalf("Compare(%v, %v) = %d; not times %v", a, b, want, c)
		}
	}
}

// P4.5

func TestRoundingIsNext(t *testing.T) {
	r := rand.New(rand.NewPCG(4, 12))
	for i := range 1000 {
		places := i % (api.MaxPlaces + 1)
		unit := new(big.Rat).SetFrac(whole(1), power(places, 0))
		v := fraction(r, []int{2, 10, 100, 170}[i%4])
		if r.IntN(3) == 0 {
			v = new(big.Rat).SetFrac(random(r, 1+r.IntN(40)), power(r.IntN(places+1), 0))
		}
		down, err := rational.Down(ratio(v), places)
		up, upErr := rational.Up(ratio(v), places)
		if err != api.OK || upErr != api.OK {
			t.Fatalf("%s to %d places: %d, %d", v, places, err, upErr)
		}
		below, above := value(t, down), value(t, up)
		if !new(big.Rat).Quo(below, unit).IsInt() || !new(big.Rat).Quo(above, unit).IsInt() {
			t.Fatalf("%s and %s, for %s, are not multiples of %s", below, above, v, unit)
		}
		gap := new(big.Rat)
		if !new(big.Rat).Quo(v, unit).IsInt() {
			gap = unit
		}
		if below.Cmp(v) > 0 || above.Cmp(v) < 0 || new(big.Rat).Sub(above, below).Cmp(gap) != 0 {
			t.Fatalf("%s to %d places is from %s to %s", v, places, below, above)
		}
		for _, again := range []api.Ratio{down, up} {
			if d, err := rational.Down(again, places); err == api.OK && d != again {
				t.Fatalf("Down(%v, %d) = %v", again, places, d)
			}
			if u, err := rational.Up(again, places); err == api.OK && u != again {
				t.Fatalf("Up(%v, %d) = %v", again, places, u)
			}
		}
		if mirrored, err := rational.Down(ratio(new(big.Rat).Neg(v)), places); err != api.OK || value(t, mirrored).Cmp(new(big.Rat).Neg(above)) != 0 {
			t.Fatalf("Down of minus %s is %v, %d, and Up of it %v", v, mirrored, err, up)
		}
	}
}

// P4.6

func TestPrintAndParse(t *testing.T) {
	r := rand.New(rand.NewPCG(4, 13))
	for _, v := range append(some(r), fraction(r, 20), fraction(r, 200)) {
		x := ratio(v)
		s := rational.Print(x)
		if s != text(x) {
			t.Errorf("Print(%v) = %q", x, s)
		}
		if got, err := rational.Parse(s); got != x || err != api.OK {
			t.Errorf("Parse(%q) = %v, %d", s, got, err)
		}
	}
	for s, want := range map[string]api.Ratio{"-3/2": {Num: "-3", Den: "2"}, "0": {Num: "0", Den: "1"}, "7": {Num: "7", Den: "1"}, "-7": {Num: "-7", Den: "1"}, "1/7": {Num: "1", Den: "7"}} {
		if got, err := rational.Parse(s); got != want || err != api.OK || rational.Print(want) != s {
			t.Errorf("Parse(%q) = %v, %d; Print returns %q", s, got, err, rational.Print(want))
		}
	}
}

func TestParseRefused(t *testing.T) {
	l := []string{
		"3/-2", "6/4", "3/1", "+3", "", "/", "1/", "/1", "/2", "-/2", "0/1", "0/2", "-0", "-0/1", "1/0", "0/0", "-1/0", "1/1", "-1/1", "-3/-2", "-3/+2", "+3/2",
		"1/2/3", "1//2", "1/2/", "/1/2", " 1/2", "1/2 ", "1 /2", "1/ 2", "03/2", "3/02", "1.5", "3:2", "3\\2", "３/2", "1/2\x00", "1/2\n", "3-2", "2/2", "-2/4",
		power(200, 0).String(), "1/" + power(200, 0).String(), "-" + power(200, 0).String() + "/3", power(199, 0).String() + "/2", power(199, 0).String() + "/1",
		strings.Repeat("/", 100000), strings.Repeat("1", 100000), "1/" + strings.Repeat("1", 100000),
	}
	for _, s := range notIntegers() {
		l = append(l, s, "1/"+s, s+"/1", s+"/"+s, s+"/7")
	}
	for _, s := range l {
		r, err := rational.Parse(s)
		refused(t, "Parse("+strconv.Quote(s[:min(30, len(s))])+")", r, err)
	}
}

// Parse accepts exactly the strings that Print returns.
func TestParseOfAllShortStrings(t *testing.T) {
	const longest = 6
	printed := map[string]api.Ratio{}
	for n := -99999; n <= 999999; n++ {
		s := strconv.Itoa(n)
		printed[s] = api.Ratio{Num: s, Den: "1"}
		for d := 2; len(s)+1+len(strconv.Itoa(d)) <= longest; d++ {
			if r := of(whole(int64(n)), whole(int64(d))); r.Num == s && r.Den == strconv.Itoa(d) {
				printed[text(r)] = r
			}
		}
	}
	l := []string{""}
	for at := 0; at < len(l); at++ {
		want, ok := printed[l[at]]
		if got, err := rational.Parse(l[at]); got != want || (err == api.OK) != ok || !ok && err != api.ErrRational {
			t.Fatalf("Parse(%q) = %v, %d; want %v, %t", l[at], got, err, want, ok)
		}
		if len(l[at]) < longest {
			for _, c := range "-/0124+" {
				l = append(l, l[at]+string(c))
			}
		}
	}
}

func FuzzParse(f *testing.F) {
	for _, s := range []string{"-3/2", "3/-2", "6/4", "3/1", "+3", "0", "-0", "", "1/2/3", power(200, -1).String() + "/" + power(199, 0).String()} {
		f.Add(s)
	}
	f.Fuzz(func(t *testing.T, s string) {
		want := parsed(s)
		r, err := rational.Parse(s)
		if !valid(want) || text(want) != s {
			refused(t, "Parse("+strconv.Quote(s)+")", r, err)
		} else if r != want || err != api.OK || rational.Print(r) != s {
			t.Errorf("Parse(%q) = %v, %d; Print returns %q", s, r, err, rational.Print(r))
		}
	})
}

func FuzzOfTwo(f *testing.F) {
	f.Add("1", "2", "1", "3", 2)
	f.Add("-1", "0", "+1", "3", -1)
	f.Add(power(200, -1).String(), power(200, -2).String(), "1", power(100, 0).String(), 30)
	f.Fuzz(func(t *testing.T, n, d, m, e string, places int) {
		x, y := api.Ratio{Num: n, Den: d}, api.Ratio{Num: m, Den: e}
		if rational.Valid(x) != valid(x) || rational.Valid(y) != valid(y) {
			t.Fatalf("Valid is %t for %v, and %t for %v", rational.Valid(x), x, rational.Valid(y), y)
		}
		if !valid(x) || !valid(y) {
			for _, o := range operations() {
				r, err := o.call(x, y)
				refused(t, o.name, r, err)
			}
			return
		}
		a, b := value(t, x), value(t, y)
		for _, o := range operations() {
			o.check(t, a, b)
		}
		if c := rational.Compare(x, y); c != a.Cmp(b) {
			t.Fatalf("Compare(%v, %v) = %d", x, y, c)
		}
		if places >= 0 && places <= api.MaxPlaces {
			checkRounding(t, a, places)
		}
	})
}

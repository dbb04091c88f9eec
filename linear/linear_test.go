package linear_test

import (
	"math"
	"math/big"
	"math/rand/v2"
	"reflect"
	"slices"
	"strconv"
	"strings"
	"testing"

	"putlog/api"
	"putlog/linear"
)

// The functions in this part say the definitions of the chapter again, with numbers of package big.

func whole(n int) *big.Int { return big.NewInt(int64(n)) }

func times(a, b *big.Int) *big.Int { return new(big.Int).Mul(a, b) }

// power returns 10 to the power of e, plus d.
func power(e, d int) *big.Int {
	n := new(big.Int).Exp(whole(10), whole(e), nil)
	return n.Add(n, whole(d))
}

func digits(n *big.Int) int { return len(new(big.Int).Abs(n).String()) }

// integer returns the number s, or false if s is not an integer with at most as many digits as vectors and weights may have.
func integer(s string) (*big.Int, bool) {
	n, ok := new(big.Int).SetString(s, 10)
	return n, ok && n.String() == s && digits(n) <= 100
}

// numbers returns the integers of l, or false if one of them is none, or is less than least.
func numbers(l []string, least int) ([]*big.Int, bool) {
	var numbers []*big.Int
	for _, s := range l {
		n, ok := integer(s)
		if !ok || least == 0 && n.Sign() < 0 {
			return nil, false
		}
		numbers = append(numbers, n)
	}
	return numbers, true
}

func valid(s api.System) bool {
	ok := s.Cols >= 0 && s.Cols <= 64 && len(s.Rows) <= 18
	for _, row := range s.Rows {
		ok = ok && len(row.Coef) == s.Cols && row.Value >= -1000000000 && row.Value <= 1000000000
		for _, c := range row.Coef {
			ok = ok && c >= -30000 && c <= 30000
		}
	}
	return ok
}

// formed returns the numbers of v, Den last, or false if v is not formed.
func formed(v api.Vector) ([]*big.Int, bool) {
	l, ok := numbers(append(slices.Clone(v.Nums), v.Den), 0)
	return l, ok && len(v.Nums) <= 64 && v.Den != "0"
}

func combined(coefs []int, l []*big.Int) *big.Int {
	sum := new(big.Int)
	for i, c := range coefs {
		sum.Add(sum, times(whole(c), l[i]))
	}
	return sum
}

func solves(s api.System, v api.Vector) bool {
	l, ok := formed(v)
	if !ok || !valid(s) || len(v.Nums) != s.Cols {
		return false
	}
	for _, row := range s.Rows {
		if combined(row.Coef, l).Cmp(times(whole(row.Value), l[s.Cols])) != 0 {
			return false
		}
	}
	return true
}

func refutes(s api.System, w []string) bool {
	l, ok := numbers(w, -1)
	if !ok || !valid(s) || len(w) != len(s.Rows) {
		return false
	}
	for j := range s.Cols {
		if combined(column(s, j), l).Sign() < 0 {
			return false
		}
	}
	return combined(column(s, -1), l).Sign() < 0
}

// column returns the coefficients of a variable, or, for -1, the Values.
func column(s api.System, j int) []int {
	var l []int
	for _, row := range s.Rows {
		if j < 0 {
			l = append(l, row.Value)
		} else {
			l = append(l, row.Coef[j])
		}
	}
	return l
}

// mixed returns what Mix has to return.
func mixed(a, b api.Vector, p, q int) (api.Vector, api.Errno) {
	x, ok := formed(a)
	y, alsoOK := formed(b)
	n := len(a.Nums)
	if !ok || !alsoOK || n != len(b.Nums) || p < 1 || p > 1000 || q < 1 || q > 1000 {
		return api.Vector{}, api.ErrLinear
	}
	l := []*big.Int{times(whole(p+q), times(x[n], y[n]))}
	for i := range n {
		l = append(l, new(big.Int).Add(times(whole(p), times(x[i], y[n])), times(whole(q), times(y[i], x[n]))))
	}
	common := new(big.Int)
	for _, m := range l {
		if digits(m) > 200 {
			return api.Vector{}, api.ErrLinear
		}
		common.GCD(nil, nil, common, m)
	}
	var texts []string
	for _, m := range l {
		m.Quo(m, common)
		if digits(m) > 100 {
			return api.Vector{}, api.ErrLinear
		}
		texts = append(texts, m.String())
	}
	return api.Vector{Nums: texts[1:], Den: texts[0]}, api.OK
}

func equal(a, b api.Vector) bool {
	x, ok := formed(a)
	y, alsoOK := formed(b)
	n := len(a.Nums)
	if !ok || !alsoOK || n != len(b.Nums) {
		return false
	}
	for i := range n {
		if times(x[i], y[n]).Cmp(times(y[i], x[n])) != 0 {
			return false
		}
	}
	return true
}

// The functions in this part make systems, vectors and weights.

func row(value int, coefs ...int) api.Equation { return api.Equation{Coef: coefs, Value: value} }

// system returns the system of these rows.
func system(cols int, rows ...api.Equation) api.System { return api.System{Cols: cols, Rows: rows} }

func vector(den string, nums ...string) api.Vector { return api.Vector{Nums: nums, Den: den} }

// nought returns a system of so many rows and columns in which all numbers are 0.
func nought(rows, cols int) api.System {
	s := api.System{Cols: cols}
	for range rows {
		s.Rows = append(s.Rows, api.Equation{Coef: make([]int, cols)})
	}
	return s
}

// random returns a system with coefficients and values from -coef to coef and -value to value.
func random(r *rand.Rand, rows, cols, coef, value int) api.System {
	s := nought(rows, cols)
	for i := range s.Rows {
		for j := range cols {
			s.Rows[i].Coef[j] = within(r, coef)
		}
		s.Rows[i].Value = within(r, value)
	}
	return s
}

func within(r *rand.Rand, bound int) int { return r.IntN(2*bound+1) - bound }

// randomNumber returns a number with so many digits, some of them in runs of zeros and nines.
func randomNumber(r *rand.Rand, digits int) string {
	s := strconv.Itoa(1 + r.IntN(9))
	for len(s) < digits {
		run := min(1+r.IntN(25), digits-len(s))
		s += []string{strings.Repeat("0", run), strings.Repeat("9", run), strconv.Itoa(r.IntN(10))}[r.IntN(3)]
	}
	return s
}

func copied(s api.System) api.System {
	c := api.System{Cols: s.Cols}
	for _, row := range s.Rows {
		c.Rows = append(c.Rows, api.Equation{Coef: slices.Clone(row.Coef), Value: row.Value})
	}
	return c
}

// same reports whether nil and empty slices apart, a and b are the same.
func same(a, b api.Vector) bool { return a.Den == b.Den && slices.Equal(a.Nums, b.Nums) }

// solved calls Solve, and returns its answer if it is what the chapter says.
func solved(t *testing.T, s api.System) api.Answer {
	t.Helper()
	a, err := linear.Solve(s)
	if err != api.OK {
		t.Fatalf("Solve(%v) = %v, %d", s, a, err)
	}
	if a.Found {
		if len(a.Weights) != 0 || !solves(s, a.Point) || !linear.Check(s, a.Point) {
			t.Fatalf("Solve(%v) = %v: the point does not solve it, or Check denies it, or there are weights", s, a)
		}
	} else if !same(a.Point, api.Vector{}) || !refutes(s, a.Weights) || !linear.Refutes(s, a.Weights) {
		t.Fatalf("Solve(%v) = %v: the weights do not refute it, or Refutes denies it, or there is a point", s, a)
	}
	return a
}

// wantFound checks that Solve finds a vector exactly if one is wanted.
func wantFound(t *testing.T, s api.System, found bool) api.Answer {
	t.Helper()
	a := solved(t, s)
	if a.Found != found {
		t.Fatalf("Solve(%v) = %v; want found %t", s, a, found)
	}
	return a
}

// invalidIntegers returns strings that are not valid integers, or have more than 100 digits.
func invalidIntegers() []string {
	long := strings.Repeat("1", 100)
	return []string{
		"", "-", "--1", "-0", "00", "01", "-01", "007", "+1", "+0", "1-", " 1", "1 ", " ", "1.0", "1e3", "1/2", "0x1", "1_0", "a", "1a",
		"\x00", "1\x00", "\xff", "/", ":", "−1", "١", "12\n",
		long + "1", "-" + long + "1", "0" + long[1:], strings.Repeat("9", 200), "-" + strings.Repeat("9", 200), strings.Repeat("9", 201), strings.Repeat("1", 100000), strings.Repeat("0", 101),
	}
}

// invalidSystems returns systems that are not valid; each of them would be solved by a vector of zeros, if it were.
func invalidSystems() []api.System {
	l := []api.System{{Cols: -1}, {Cols: math.MinInt}, {Cols: 65}, {Cols: math.MaxInt}, {Cols: 1 << 32}, nought(19, 0), nought(19, 2), nought(18, 65), nought(1, 65), nought(100000, 1)}
	for _, cols := range []int{-1, 0, 1, 3, 64} {
		for i := range 3 {
			s := nought(3, 2)
			s.Rows[i].Coef = make([]int, max(cols, 0))
			l = append(l, s)
		}
		l = append(l, api.System{Cols: cols, Rows: nought(1, 2).Rows})
	}
	for _, coef := range []int{30001, -30001, math.MaxInt, math.MinInt, 1<<32 + 1} {
		for i := range 9 {
			s := nought(3, 3)
			s.Rows[i/3].Coef[i%3] = coef
			l = append(l, s)
		}
		s := nought(18, 64)
		s.Rows[17].Coef[63] = coef
		l = append(l, s)
	}
	for _, value := range []int{1000000001, -1000000001, math.MaxInt, math.MinInt, 1 << 32} {
		for i := range 3 {
			s := nought(3, 3)
			s.Rows[i].Value = value
			l = append(l, s)
		}
		s := nought(1, 0)
		s.Rows[0].Value = value
		l = append(l, s)
	}
	return l
}

// limits returns valid systems whose sizes or numbers are the greatest or least ones.
func limits() []api.System {
	l := []api.System{{}, {Cols: 64}, nought(18, 0), nought(18, 64), nought(1, 64), nought(18, 1)}
	for _, sign := range []int{1, -1} {
		s := nought(18, 64)
		for i := range s.Rows {
			s.Rows[i].Value = sign * 1000000000
			for j := range s.Cols {
				s.Rows[i].Coef[j] = sign * 30000
			}
		}
		l = append(l, s)
	}
	return l
}

// P6.1: Valid

func TestValid(t *testing.T) {
	for i, s := range limits() {
		if !linear.Valid(s) || !valid(s) {
			t.Errorf("the system %d is not valid", i)
		}
	}
	for i, s := range invalidSystems() {
		if linear.Valid(s) || valid(s) {
			t.Errorf("the invalid system %d (%d columns, %d rows) is valid", i, s.Cols, len(s.Rows))
		}
	}
}

func TestValidAtEachPlace(t *testing.T) {
	for i := range 18 {
		for j := range 64 {
			for _, c := range []int{30000, -30000, 30001, -30001} {
				s := nought(18, 64)
				s.Rows[i].Coef[j] = c
				if linear.Valid(s) != valid(s) {
					t.Fatalf("Valid with %d at %d, %d = %t", c, i, j, !valid(s))
				}
			}
		}
		for _, v := range []int{1000000000, -1000000000, 1000000001, -1000000001} {
			s := nought(18, 64)
			s.Rows[i].Value = v
			if linear.Valid(s) != valid(s) {
				t.Fatalf("Valid with the Value %d at %d = %t", v, i, !valid(s))
			}
		}
	}
}

// P6.1: Check

func TestCheckExamples(t *testing.T) {
	s := system(2, row(3, 1, 1), row(1, 1, -1))
	for _, c := range []struct {
		v    api.Vector
		want bool
	}{
		{vector("2", "4", "2"), true}, {vector("1", "2", "1"), true}, {vector("300", "600", "300"), true},
		{vector("1", "1", "2"), false}, {vector("2", "2", "1"), false}, {vector("1", "2", "1", "0"), false}, {vector("1", "2"), false}, {vector("1"), false},
		{vector("0", "0", "0"), false}, {vector("-1", "-2", "-1"), false}, {vector("", "2", "1"), false}, {vector("1", "2", ""), false}, {api.Vector{}, false},
	} {
		if linear.Check(s, c.v) != c.want {
			t.Errorf("Check(%v) = %t", c.v, !c.want)
		}
	}
	// A vector with a negative element does not solve it, whatever the sums are.
	if s := system(2, row(3, 1, 1), row(4, 1, -1)); linear.Check(s, vector("2", "7", "-1")) {
		t.Error("Check accepts -1/2")
	}
	if s := system(0, row(0)); !linear.Check(s, vector("1")) || !linear.Check(s, vector("7")) || linear.Check(s, vector("0")) || linear.Check(s, vector("1", "0")) {
		t.Error("Check of 0 = 0 without variables")
	}
	if linear.Check(system(0, row(1)), vector("1")) || !linear.Check(system(0), vector("1")) || linear.Check(system(0), api.Vector{}) {
		t.Error("Check of 0 = 1, or of nothing, without variables")
	}
}

func TestCheckOfVectorsThatAreNotFormed(t *testing.T) {
	s := nought(2, 3)
	hundred := strings.Repeat("9", 100)
	for _, v := range []api.Vector{vector("1", "0", "0", "0"), vector(hundred, "0", hundred, "1")} {
		if !linear.Check(s, v) {
			t.Errorf("Check(%v) = false", v)
		}
	}
	for _, text := range append(invalidIntegers(), "-1", "-7", "-"+hundred) {
		for i := range 4 {
			l := []string{"0", "5", hundred, "1"}
			l[i] = text
			if linear.Check(s, vector(l[3], l[:3]...)) {
				t.Errorf("Check accepts %.30q at %d", text, i)
			}
		}
	}
	if linear.Check(s, vector("0", "0", "0", "0")) {
		t.Error("Check accepts the Den 0")
	}
	long := make([]string, 100000)
	for i := range long {
		long[i] = "0"
	}
	for _, n := range []int{0, 1, 2, 4, 64, 65, len(long)} {
		if linear.Check(s, vector("1", long[:n]...)) {
			t.Errorf("Check accepts %d elements for 3 variables", n)
		}
	}
}

func TestCheckOfInvalidSystems(t *testing.T) {
	for i, s := range invalidSystems() {
		for _, n := range []int{0, 1, 2, 3, 64, 65, 100000} {
			v := vector("1", slices.Repeat([]string{"0"}, n)...)
			if linear.Check(s, v) {
				t.Errorf("Check accepts the invalid system %d", i)
			}
		}
		if max(s.Cols, 0) < 1000 && linear.Check(s, vector("1", slices.Repeat([]string{"0"}, max(s.Cols, 0))...)) {
			t.Errorf("Check accepts the invalid system %d with as many zeros", i)
		}
	}
}

func TestCheckAgainstTheDefinition(t *testing.T) {
	r := rand.New(rand.NewPCG(6, 1))
	accepted := 0
	for range 20000 {
		s := random(r, r.IntN(3), r.IntN(4), 2, 2)
		v := vector(strconv.Itoa(r.IntN(4)))
		for range s.Cols + r.IntN(20)/19 {
			v.Nums = append(v.Nums, strconv.Itoa(r.IntN(4)))
		}
		want := solves(s, v)
		if linear.Check(s, v) != want {
			t.Fatalf("Check(%v, %v) = %t", s, v, !want)
		}
		if want {
			accepted++
		}
	}
	if accepted < 500 {
		t.Errorf("only %d vectors solve their systems", accepted)
	}
}

// The sums have up to 109 digits, and the last one counts.
func TestCheckOfLongNumbers(t *testing.T) {
	r := rand.New(rand.NewPCG(6, 2))
	nines := strings.Repeat("9", 100)
	wide := limits()[7]
	most := vector("1", slices.Repeat([]string{nines}, 64)...)
	if linear.Check(wide, most) || !linear.Check(nought(18, 64), most) {
		t.Error("Check of 64 numbers with 100 nines")
	}
	for range 3000 {
		a, b, value := 1+r.IntN(29999), 1+r.IntN(29999), r.IntN(1000000001)
		k, _ := integer(randomNumber(r, 1+r.IntN(94)))
		den, _ := integer(randomNumber(r, 1+r.IntN(91)))
		// a * x - b * y + c * z = value, with x / Den = b * k, y / Den = a * k, and z / Den = value / c.
		c := 1 + r.IntN(30000)
		l := []string{times(whole(b), k).String(), times(whole(a), k).String(), times(whole(value), den).String(), times(whole(c), den).String()}
		s := system(3, row(value, a, -b, c), row(0, -a, b, 0), row(-value, 0, 0, -c))
		if v := vector(l[3], l[:3]...); !solves(s, v) || !linear.Check(s, v) {
			t.Fatalf("Check(%v, %v) = false", s, v)
		}
		at := r.IntN(4)
		n, _ := integer(l[at])
		l[at] = n.Add(n, whole(1)).String()
		if v := vector(l[3], l[:3]...); value > 0 && linear.Check(s, v) {
			t.Fatalf("Check(%v, %v) = true; the number %d is too great by 1", s, v, at)
		}
	}
}

// P6.1: Refutes

func TestRefutesExamples(t *testing.T) {
	s := system(2, row(3, 1, 1), row(4, 1, -1))
	for _, c := range []struct {
		w    []string
		want bool
	}{
		{[]string{"1", "-1"}, true}, {[]string{"7", "-7"}, true}, {[]string{"7", "-6"}, true}, {[]string{"5", "-4"}, true},
		{[]string{"-1", "1"}, false}, {[]string{"4", "-3"}, false}, {[]string{"0", "0"}, false}, {[]string{"0", "-1"}, false}, {[]string{"-1", "0"}, false},
		{[]string{"1"}, false}, {[]string{"1", "-1", "0"}, false}, {nil, false}, {[]string{"1", "-1", ""}, false},
	} {
		if linear.Refutes(s, c.w) != c.want || refutes(s, c.w) != c.want {
			t.Errorf("Refutes(%v) = %t", c.w, !c.want)
		}
	}
	if none := system(0, row(1), row(0)); !linear.Refutes(none, []string{"-1", "0"}) || !linear.Refutes(none, []string{"-1", "5"}) || linear.Refutes(none, []string{"1", "5"}) {
		t.Error("Refutes of 0 = 1 without variables")
	}
	if linear.Refutes(system(0), nil) || linear.Refutes(system(3), nil) || linear.Refutes(system(3), []string{}) || linear.Refutes(system(3), []string{"-1"}) {
		t.Error("Refutes of nothing")
	}
}

func TestRefutesByInvalidWeights(t *testing.T) {
	s := system(1, row(-5, 0), row(-5, 0), row(-5, 0))
	hundred := strings.Repeat("9", 100)
	for _, w := range [][]string{{"1", "1", "1"}, {hundred, "0", "0"}, {"-" + hundred, hundred, "1"}, {"-1", hundred, "-" + hundred[1:]}} {
		if !linear.Refutes(s, w) || !refutes(s, w) {
			t.Errorf("Refutes(%v) = false", w)
		}
	}
	for _, text := range invalidIntegers() {
		for i := range 3 {
			w := []string{"1", "1", hundred}
			w[i] = text
			if linear.Refutes(s, w) {
				t.Errorf("Refutes accepts %.30q at %d", text, i)
			}
		}
	}
	for _, n := range []int{0, 1, 2, 4, 18, 19, 100000} {
		if linear.Refutes(s, slices.Repeat([]string{"1"}, n)) {
			t.Errorf("Refutes accepts %d weights for 3 rows", n)
		}
	}
}

func TestRefutesInvalidSystems(t *testing.T) {
	for i, s := range invalidSystems() {
		for _, n := range []int{0, 1, len(s.Rows)} {
			for _, w := range []string{"0", "1", "-1"} {
				if linear.Refutes(s, slices.Repeat([]string{w}, n)) {
					t.Errorf("Refutes accepts the invalid system %d", i)
				}
			}
		}
	}
}

func TestRefutesAgainstTheDefinition(t *testing.T) {
	r := rand.New(rand.NewPCG(6, 3))
	accepted := 0
	for range 20000 {
		s := random(r, r.IntN(4), r.IntN(4), 2, 2)
		var w []string
		for range len(s.Rows) + r.IntN(20)/19 {
			w = append(w, strconv.Itoa(within(r, 3)))
		}
		want := refutes(s, w)
		if linear.Refutes(s, w) != want {
			t.Fatalf("Refutes(%v, %v) = %t", s, w, !want)
		}
		if want {
			accepted++
		}
	}
	if accepted < 500 {
		t.Errorf("only %d weights refute their systems", accepted)
	}
}

// The sums have up to 111 digits; they are compared with 0 exactly.
func TestRefutesByLongWeights(t *testing.T) {
	r := rand.New(rand.NewPCG(6, 4))
	nines := strings.Repeat("9", 100)
	for i, s := range limits()[6:] {
		for _, sign := range []string{"", "-"} {
			w := slices.Repeat([]string{sign + nines}, 18)
			for range 2 {
				if want := refutes(s, w); linear.Refutes(s, w) != want {
					t.Errorf("Refutes by 18 weights %s... for the system %d with the Values %d = %t", w[0][:2], i, s.Rows[0].Value, !want)
				}
				for j := range s.Rows {
					s.Rows[j].Value = -s.Rows[j].Value
				}
			}
		}
	}
	for range 3000 {
		a, b := 1+r.IntN(30000), 1+r.IntN(30000)
		k, _ := integer(randomNumber(r, 1+r.IntN(95)))
		// The variable gets exactly 0, or 1 times a more or less.
		s := system(1, row(1, -a), row(0, b), row(0, 1))
		for d := -1; d <= 1; d++ {
			w := []string{times(whole(-b), k).String(), times(whole(-a), k).String(), strconv.Itoa(d)}
			if want := d >= 0; linear.Refutes(s, w) != want || refutes(s, w) != want {
				t.Fatalf("Refutes(%v, %v) = %t", s, w, !want)
			}
		}
		// The Values get exactly 0, or 1 more or less.
		v := system(1, row(a, 0), row(-b, 0), row(1, 0))
		for d := -1; d <= 1; d++ {
			w := []string{times(whole(b), k).String(), times(whole(a), k).String(), strconv.Itoa(d)}
			if want := d < 0; linear.Refutes(v, w) != want || refutes(v, w) != want {
				t.Fatalf("Refutes(%v, %v) = %t", v, w, !want)
			}
		}
	}
}

// P6.1: Solve

func TestSolveExamples(t *testing.T) {
	a := wantFound(t, system(2, row(3, 1, 1), row(1, 1, -1)), true)
	if !linear.Equal(a.Point, vector("1", "2", "1")) {
		t.Errorf("the only vector is 2, 1, not %v", a.Point)
	}
	wantFound(t, system(2, row(3, 1, 1), row(4, 1, -1)), false)
	if a := wantFound(t, system(0, row(0)), true); len(a.Point.Nums) != 0 {
		t.Errorf("0 = 0 has the elements %v", a.Point.Nums)
	}
	wantFound(t, system(0, row(1)), false)
	wantFound(t, system(0, row(-1)), false)
	wantFound(t, system(0), true)
	wantFound(t, system(64), true)
	wantFound(t, system(1, row(-3, 2)), false)
	wantFound(t, system(1, row(-3, -2)), true)
	wantFound(t, system(1, row(5, 0)), false)
	wantFound(t, system(1, row(0, 0)), true)
	wantFound(t, system(3, row(0, 1, 2, 3)), true)
	wantFound(t, system(3, row(0, 1, 2, 3), row(1, 0, 1, 0)), false)
}

func TestSolveAtTheLimits(t *testing.T) {
	for _, s := range limits() {
		wantFound(t, s, true)
		for i := range s.Rows {
			s.Rows[i].Value = 1000000000 - i%2*2000000000
		}
		if len(s.Rows) > 1 {
			wantFound(t, s, false)
		}
	}
}

func TestSolveOfInvalidSystems(t *testing.T) {
	for i, s := range invalidSystems() {
		a, err := linear.Solve(s)
		if err != api.ErrLinear || a.Found || len(a.Weights) != 0 || !same(a.Point, api.Vector{}) {
			t.Errorf("Solve of the invalid system %d = %v, %d", i, a, err)
		}
	}
}

func TestSolveIsTheSameForEqualSystems(t *testing.T) {
	r := rand.New(rand.NewPCG(6, 5))
	var systems []api.System
	var answers []api.Answer
	for range 300 {
		s := random(r, r.IntN(6), r.IntN(8), 5, 9)
		systems, answers = append(systems, s), append(answers, solved(t, s))
	}
	for i := len(systems) - 1; i >= 0; i-- {
		if a := solved(t, copied(systems[i])); !reflect.DeepEqual(a, answers[i]) {
			t.Fatalf("Solve(%v) = %v, and then %v", systems[i], answers[i], a)
		}
	}
	a, _ := linear.Solve(api.System{Rows: []api.Equation{{Coef: nil}, {Coef: []int{}}}})
	b, _ := linear.Solve(api.System{Rows: []api.Equation{{Coef: []int{}}, {Coef: nil}}})
	if !a.Found || !reflect.DeepEqual(a, b) {
		t.Errorf("nil and empty coefficients: %v and %v", a, b)
	}
}

// P6.1: Mix and Equal

func TestMixExamples(t *testing.T) {
	hundred, one := strings.Repeat("9", 100), power(99, 0).String()
	for i, c := range []struct {
		a, b, want api.Vector
		p, q       int
	}{
		{vector("1", "1", "0"), vector("1", "0", "1"), vector("4", "1", "3"), 1, 3},
		{vector("1", "1", "0"), vector("1", "0", "1"), vector("4", "1", "3"), 100, 300},
		{vector("1", "1", "0"), vector("1", "0", "1"), vector("1001", "1", "1000"), 1, 1000},
		{vector("2", "2", "4"), vector("4", "4", "8"), vector("1", "1", "2"), 7, 9},
		{vector("2", "0", "0"), vector("3", "0", "0"), vector("1", "0", "0"), 1, 1},
		{vector("6"), vector("10"), vector("1"), 1000, 1000},
		{vector("2", "1"), vector("3", "1"), vector("12", "5"), 1, 1},
		{vector("2", "1"), vector("3", "1"), vector("30", "13"), 3, 2},
		// 200 digits before, and 100 or 1 after.
		{vector(one, "1"), vector(one, "1"), vector(one, "1"), 4, 6},
		{vector(one, one, "0"), vector(one, "0", one), vector("2", "1", "1"), 49, 49},
		{vector(one, one), vector(one, one), vector("1", "1"), 98, 1},
		{vector(one, one), vector(one, one), api.Vector{}, 99, 1},
		{vector(hundred, hundred, "0"), vector(hundred, "0", hundred), api.Vector{}, 1, 1},
		{vector(one, "1"), vector(one, "1"), api.Vector{}, 50, 50},
		{vector("1", one+"0"), vector("1", one), api.Vector{}, 1, 1},
	} {
		code := api.OK
		if c.want.Den == "" {
			code = api.ErrLinear
		}
		if v, err := linear.Mix(c.a, c.b, c.p, c.q); !same(v, c.want) || err != code {
			t.Errorf("the mixture %d = %v, %d; want %v, %d", i, v, err, c.want, code)
		}
	}
}

// wantMix checks Mix in both orders.
func wantMix(t *testing.T, a, b api.Vector, p, q int) {
	t.Helper()
	for range 2 {
		want, code := mixed(a, b, p, q)
		if v, err := linear.Mix(a, b, p, q); !same(v, want) || err != code {
			t.Fatalf("Mix(%v, %v, %d, %d) = %v, %d; want %v, %d", a, b, p, q, v, err, want, code)
		}
		a, b, p, q = b, a, q, p
	}
}

func TestMixWithPartsOutOfBounds(t *testing.T) {
	a, b := vector("1", "1", "0"), vector("1", "0", "1")
	for _, p := range []int{1, 2, 999, 1000, 1001, 0, -1, -1000, math.MaxInt, math.MinInt, 1 << 32, 1<<32 + 1} {
		for _, q := range []int{1, 500, 1000, 1001, 0, -1, math.MaxInt, math.MinInt} {
			wantMix(t, a, b, p, q)
		}
	}
}

func TestMixAndEqualOfVectorsThatAreNotFormed(t *testing.T) {
	good := vector("2", "1", "0")
	many := slices.Repeat([]string{"1"}, 65)
	l := []api.Vector{{}, vector("0", "1", "0"), vector("0", "0", "0"), vector("-1", "1", "0"), vector("1", "-1", "0"), vector("1", "0", "-1"), vector("1"), vector("1", "1"), vector("1", "1", "0", "0"), vector("1", many...)}
	for _, text := range invalidIntegers() {
		l = append(l, vector(text, "1", "0"), vector("1", text, "0"), vector("1", "1", text))
	}
	for _, v := range l {
		wantMix(t, v, good, 1, 1)
		wantMix(t, v, v, 1, 1)
		_, ok := formed(v)
		if linear.Equal(v, good) || linear.Equal(good, v) || linear.Equal(v, v) != ok {
			t.Errorf("Equal of %.60v", v)
		}
	}
	full := vector("3", many[:64]...)
	wantMix(t, full, full, 1, 2)
	if !linear.Equal(full, full) || linear.Equal(full, vector("3", many[:63]...)) {
		t.Error("Equal of 64 elements")
	}
}

func TestMixAgainstTheDefinition(t *testing.T) {
	r := rand.New(rand.NewPCG(6, 6))
	errors := 0
	for range 4000 {
		n := r.IntN(4)
		longest := []int{3, 30, 50, 100}[r.IntN(4)]
		common := randomNumber(r, 1+r.IntN(longest))
		pick := func() string {
			switch r.IntN(4) {
			case 0:
				return "0"
			case 1:
				return common
			}
			return randomNumber(r, 1+r.IntN(longest))
		}
		draw := func() api.Vector {
			v := vector(common)
			if r.IntN(3) == 0 {
				v.Den = randomNumber(r, 1+r.IntN(longest))
			}
			for range n {
				v.Nums = append(v.Nums, pick())
			}
			return v
		}
		a, b := draw(), draw()
		p, q := 1+r.IntN(1000), 1+r.IntN(1000)
		wantMix(t, a, b, p, q)
		if _, err := linear.Mix(a, b, p, q); err != api.OK {
			errors++
		}
		if linear.Equal(a, b) != equal(a, b) || !linear.Equal(a, a) {
			t.Fatalf("Equal(%v, %v) = %t", a, b, !equal(a, b))
		}
	}
	if errors < 200 || errors > 3800 {
		t.Errorf("%d of the mixtures are errors", errors)
	}
}

// Of the numbers before, and of those after, each one may be the only one that is too long.
func TestMixAtTheBoundsOfDigits(t *testing.T) {
	for _, before := range []int{98, 99} {
		for _, parts := range [][2]int{{1, 1}, {1, 8}, {1, 9}, {5, 5}, {9, 90}, {10, 90}, {1, 99}, {500, 500}, {1000, 1000}} {
			for _, d := range []int{-1, 0, 1} {
				x := power(before, 0).String()
				y := power(before, d).String()
				wantMix(t, vector(x, "1"), vector(y, "1"), parts[0], parts[1])
				wantMix(t, vector(x, x), vector(y, y), parts[0], parts[1])
				wantMix(t, vector("1", x), vector("1", y), parts[0], parts[1])
				wantMix(t, vector(x, y), vector(x, "0"), parts[0], parts[1])
				wantMix(t, vector(x, x, "0", x), vector(x, "0", y, x), parts[0], parts[1])
			}
		}
	}
	for _, length := range []int{49, 50, 51} {
		r := rand.New(rand.NewPCG(6, uint64(length)))
		for range 300 {
			wantMix(t, vector(randomNumber(r, length), "1"), vector(randomNumber(r, length), "2"), 1+r.IntN(20), 1+r.IntN(20))
			wantMix(t, vector("1", randomNumber(r, 2*length-2)), vector("1", randomNumber(r, 2*length-2)), 1+r.IntN(20), 1+r.IntN(20))
		}
	}
}

func TestEqual(t *testing.T) {
	long := randomNumber(rand.New(rand.NewPCG(6, 7)), 100)
	n, _ := integer(long)
	next := n.Sub(n, whole(1)).String()
	for i, c := range []struct {
		a, b api.Vector
		want bool
	}{
		{vector("1", "2", "1"), vector("2", "4", "2"), true}, {vector("3", "6", "9"), vector("2", "4", "6"), true}, {vector("1"), vector("7"), true},
		{vector("1", "2", "1"), vector("1", "1", "2"), false}, {vector("1", "2", "1"), vector("2", "4", "1"), false}, {vector("1", "2", "1"), vector("2", "2", "1"), false},
		{vector("5", "0", "0"), vector("7", "0", "0"), true}, {vector("5", "0", "1"), vector("7", "0", "0"), false}, {vector("1", "0"), vector("1", "0", "0"), false}, {vector("1"), vector("1", "0"), false},
		{vector(long, long), vector("1", "1"), true}, {vector(next, next), vector(long, long), true}, {vector(long, next), vector("1", "1"), false}, {vector(next, long), vector(long, next), false}, {vector(long, long, next), vector(long, long, long), false},
	} {
		if linear.Equal(c.a, c.b) != c.want || linear.Equal(c.b, c.a) != c.want || equal(c.a, c.b) != c.want {
			t.Errorf("Equal of the pair %d = %t", i, !c.want)
		}
	}
}

// P6.1: results share no memory with arguments, nor with each other; arguments, and their spare capacity, stay as they are.

func TestArgumentsAreNotModified(t *testing.T) {
	s := api.System{Cols: 2, Rows: make([]api.Equation, 0, 4)}
	for i := range 4 {
		coefs := append(make([]int, 0, 4), 1, 1-2*i, 77, 78)
		s.Rows = append(s.Rows, api.Equation{Coef: coefs[:2], Value: 3 - i})
	}
	rows := s.Rows
	s.Rows = rows[:2]
	spare := copied(api.System{Cols: 2, Rows: rows})
	nums := []string{"2", "1", "spare", "capacity"}
	weights := []string{"1", "-1", "spare", "capacity"}
	v, w := vector("1", nums[:2]...), weights[:2]
	linear.Valid(s)
	linear.Check(s, v)
	linear.Refutes(s, w)
	solved(t, s)
	if _, err := linear.Mix(v, v, 1, 2); err != api.OK {
		t.Error(err)
	}
	linear.Equal(v, v)
	if !reflect.DeepEqual(copied(api.System{Cols: 2, Rows: rows}), spare) || !slices.Equal(nums, []string{"2", "1", "spare", "capacity"}) || !slices.Equal(weights, []string{"1", "-1", "spare", "capacity"}) {
		t.Errorf("an argument was modified: %v, %v, %v", rows, nums, weights)
	}
	for _, row := range rows {
		if all := row.Coef[:4]; all[2] != 77 || all[3] != 78 {
			t.Errorf("the spare capacity of a row was written to: %v", all)
		}
	}
}

func TestResultsAreNewMemory(t *testing.T) {
	yes, no := system(2, row(3, 1, 1), row(1, 1, -1)), system(2, row(3, 1, 1), row(4, 1, -1))
	for range 2 {
		a, b := solved(t, yes), solved(t, no)
		m, _ := linear.Mix(a.Point, vector("1", "1", "0"), 1, 1)
		if !same(m, vector("2", "3", "1")) {
			t.Fatalf("Mix = %v", m)
		}
		for _, l := range [][]string{a.Point.Nums, b.Weights, m.Nums} {
			l = append(l, "more")
			for i := range l {
				l[i] = "overwritten"
			}
		}
		if a.Point.Den != "1" || m.Den != "2" {
			t.Errorf("the Dens are %s and %s", a.Point.Den, m.Den)
		}
	}
}

package linear_test

import (
	"math/big"
	"math/rand/v2"
	"slices"
	"strconv"
	"testing"
	"time"

	"putlog/api"
	"putlog/linear"
)

// solvable reports whether some vector solves s. If one does, so does one whose elements that are not 0 belong to columns none of which depends on the others; all sets of columns are tried.
func solvable(s api.System) bool {
	for set := range 1 << s.Cols {
		if values := unique(s, set); values != nil && !slices.ContainsFunc(values, func(v *big.Rat) bool { return v.Sign() < 0 }) {
			return true
		}
	}
	return false
}

// unique returns the only values of the variables of a set with which they solve s; nil if there are none, or several ones.
func unique(s api.System, set int) []*big.Rat {
	var rows [][]*big.Rat
	for _, row := range s.Rows {
		var l []*big.Rat
		for j, c := range row.Coef {
			if set>>j&1 == 1 {
				l = append(l, big.NewRat(int64(c), 1))
			}
		}
		rows = append(rows, append(l, big.NewRat(int64(row.Value), 1)))
	}
	n := 0
	for ; set > 0; set &= set - 1 {
		n++
	}
	values := []*big.Rat{}
	for j := range n {
		at := slices.IndexFunc(rows[min(j, len(rows)):], func(row []*big.Rat) bool { return row[j].Sign() != 0 })
		if at < 0 {
			return nil
		}
		rows[j], rows[j+at] = rows[j+at], rows[j]
		for i, row := range rows {
			factor := new(big.Rat).Quo(row[j], rows[j][j])
			for k := range row {
				if i != j {
					row[k] = new(big.Rat).Sub(row[k], new(big.Rat).Mul(factor, rows[j][k]))
				}
			}
		}
	}
	for i, row := range rows {
		switch {
		case i < n:
			values = append(values, new(big.Rat).Quo(row[n], row[i]))
		case row[n].Sign() != 0:
			return nil
		}
	}
	return values
}

// madeFor returns a system that the elements of x solve, and the vector of them.
func madeFor(r *rand.Rand, rows, cols, coef, most int) (api.System, api.Vector) {
	s := random(r, rows, cols, coef, 0)
	v := vector("1")
	for j := range cols {
		x := max(0, within(r, most))
		v.Nums = append(v.Nums, strconv.Itoa(x))
		for i := range s.Rows {
			s.Rows[i].Value += s.Rows[i].Coef[j] * x
		}
	}
	return s, v
}

// madeAgainst returns a system that the weights refute.
func madeAgainst(r *rand.Rand, rows, cols, coef, value, weight int) (api.System, []string) {
	s := random(r, rows, cols, coef, value)
	var l []int
	var texts []string
	for range rows {
		l = append(l, within(r, weight))
		texts = append(texts, strconv.Itoa(l[len(l)-1]))
	}
	total := func(j int) (sum int) {
		for i, c := range column(s, j) {
			sum += l[i] * c
		}
		return sum
	}
	for j := range cols {
		if total(j) < 0 {
			negate(s, j)
		}
	}
	if total(-1) == 0 {
		return impossible(s, r.IntN(rows))
	}
	if total(-1) > 0 {
		for i := range s.Rows {
			s.Rows[i].Value = -s.Rows[i].Value
		}
	}
	return s, texts
}

// impossible changes the row at so that it alone has no solution, and returns s, and weights that say so.
func impossible(s api.System, at int) (api.System, []string) {
	s.Rows[at].Value = -1
	for j, c := range s.Rows[at].Coef {
		s.Rows[at].Coef[j] = max(c, -c)
	}
	w := slices.Repeat([]string{"0"}, len(s.Rows))
	w[at] = "1"
	return s, w
}

func negate(s api.System, j int) {
	for i := range s.Rows {
		s.Rows[i].Coef[j] = -s.Rows[i].Coef[j]
	}
}

// P6.2

func TestSolveOfAllSmallSystems(t *testing.T) {
	for z := range 3 * 3 * 3 * 3 * 3 * 3 * 3 * 3 * 5 {
		digit := func(base int) int {
			d := z % base
			z /= base
			return d - base/2
		}
		s := system(3, row(digit(5), digit(3), digit(3), digit(3)), row(digit(3), digit(3), digit(3), digit(3)))
		wantFound(t, s, solvable(s))
	}
}

func TestSolveAgainstAllSetsOfColumns(t *testing.T) {
	r := rand.New(rand.NewPCG(6, 21))
	found := 0
	const n = 3000
	for range n {
		rows, cols := 1+r.IntN(4), r.IntN(7)
		s := random(r, rows, cols, 1+r.IntN(9), r.IntN(5))
		for i := range s.Rows {
			if i > 0 && r.IntN(5) == 0 {
				// A row that depends on the one above it, with a Value that may not.
				for j, c := range s.Rows[i-1].Coef {
					s.Rows[i].Coef[j] = -2 * c
				}
				s.Rows[i].Value = -2*s.Rows[i-1].Value + r.IntN(2)
			}
		}
		a := wantFound(t, s, solvable(s))
		if a.Found {
			found++
		}
	}
	if found < n/5 || found > n*4/5 {
		t.Errorf("%d of %d systems are solvable", found, n)
	}
}

func TestSystemsMadeForAVectorAreSolved(t *testing.T) {
	r := rand.New(rand.NewPCG(6, 22))
	for range 60 {
		for _, c := range []struct{ rows, cols, coef, most int }{{18, 64, 30000, 500}, {18, 64, 1, 500}, {18, 64, 3, 2}, {18, 18, 30000, 1000}, {18, 5, 300, 30000}, {5, 64, 30000, 500}, {6, 8, 4, 1}, {1, 1, 30000, 33333}, {9, 16, 100, 50}} {
			s, v := madeFor(r, c.rows, c.cols, c.coef, c.most)
			if !linear.Check(s, v) {
				t.Fatalf("Check(%v, %v) = false", s, v)
			}
			wantFound(t, s, true)
		}
	}
}

func TestSystemsMadeAgainstWeightsAreRefuted(t *testing.T) {
	r := rand.New(rand.NewPCG(6, 23))
	for range 60 {
		for _, c := range []struct{ rows, cols, coef, value, weight int }{{18, 64, 30000, 1000000000, 1000000}, {18, 64, 30000, 1, 3}, {18, 64, 1, 1, 1}, {18, 18, 30000, 1000000000, 10}, {18, 5, 300, 1000, 100}, {2, 64, 30000, 1000, 100}, {6, 8, 4, 3, 2}, {1, 1, 30000, 5, 1}, {9, 16, 100, 5000, 50}} {
			s, w := madeAgainst(r, c.rows, c.cols, c.coef, c.value, c.weight)
			if !linear.Refutes(s, w) {
				t.Fatalf("Refutes(%v, %v) = false", s, w)
			}
			wantFound(t, s, false)
		}
	}
}

func TestSolveOfRandomSystems(t *testing.T) {
	r := rand.New(rand.NewPCG(6, 24))
	for range 150 {
		for _, c := range [][4]int{{18, 64, 30000, 1000000000}, {18, 36, 30000, 1000000000}, {18, 36, 2, 1}, {18, 36, 30000, 0}, {12, 24, 1, 1000000000}, {7, 14, 20, 20}} {
			s := random(r, c[0], c[1], c[2], c[3])
			for i := range s.Rows {
				for j := range s.Cols {
					if r.IntN(2) == 0 {
						s.Rows[i].Coef[j] *= r.IntN(2)
					}
				}
			}
			solved(t, s)
		}
	}
}

// determinants returns a system with as many rows as columns, whose coefficients are the greatest and the least ones; if it is solvable by a set of columns with all of them, only one vector solves it.
func determinants(r *rand.Rand, n int) api.System {
	s := nought(n, n)
	for i := range s.Rows {
		for j := range n {
			s.Rows[i].Coef[j] = 30000 - r.IntN(2)*60000 + r.IntN(2)
			if s.Rows[i].Coef[j] > 30000 {
				s.Rows[i].Coef[j] = 29999
			}
		}
		s.Rows[i].Value = 1000000000 - r.IntN(2)*2000000000 + r.IntN(2)
		if s.Rows[i].Value > 1000000000 {
			s.Rows[i].Value = 999999999
		}
	}
	return s
}

// The numbers of the only vector are quotients of determinants, which are nearly as great as they can be.
func TestSolveOfSystemsWithGreatDeterminants(t *testing.T) {
	r := rand.New(rand.NewPCG(6, 25))
	most := 0
	for range 60 {
		s := determinants(r, 18)
		values := unique(s, 1<<18-1)
		if values == nil {
			continue
		}
		for j, v := range values {
			if v.Sign() < 0 {
				negate(s, j)
				v.Neg(v)
			}
		}
		a := wantFound(t, s, true)
		den, _ := integer(a.Point.Den)
		for j, v := range values {
			num, _ := integer(a.Point.Nums[j])
			if new(big.Rat).SetFrac(num, den).Cmp(v) != 0 {
				t.Fatalf("the element %d is %s / %s, not %s", j, num, den, v)
			}
			most = max(most, digits(num), digits(den))
		}
	}
	if most < 88 {
		t.Errorf("the longest number has only %d digits", most)
	}
}

// With a row more than columns, the weights are determinants.
func TestSolveOfSystemsWithGreatWeights(t *testing.T) {
	r := rand.New(rand.NewPCG(6, 26))
	most := 0
	for range 60 {
		s := determinants(r, 18)
		s.Cols = 17
		for i := range s.Rows {
			s.Rows[i].Coef = s.Rows[i].Coef[:17]
		}
		// The columns are such that the first 17 rows alone have a solution.
		first := api.System{Cols: 17, Rows: s.Rows[:17]}
		values := unique(first, 1<<17-1)
		if values == nil {
			continue
		}
		for j, v := range values {
			if v.Sign() < 0 {
				negate(s, j)
			}
		}
		wantFound(t, first, true)
		for _, text := range wantFound(t, s, false).Weights {
			w, _ := integer(text)
			most = max(most, digits(w))
		}
	}
	if most < 80 {
		t.Errorf("the longest weight has only %d digits", most)
	}
}

// Here the determinants are multiples of great powers of two, or such powers.
func TestSolveOfSystemsWithPowersOfTwo(t *testing.T) {
	r := rand.New(rand.NewPCG(6, 28))
	for range 40 {
		for _, coef := range []int{2, 16, 256, 4096, 16384} {
			s := random(r, 18, 40, 1, 1000)
			diagonal := nought(18, 18)
			for i := range s.Rows {
				for j := range s.Cols {
					s.Rows[i].Coef[j] *= coef
				}
				diagonal.Rows[i].Coef[i] = coef
				diagonal.Rows[i].Value = s.Rows[i].Value
				diagonal.Rows[i].Coef[(i+1)%18] = 2 * r.IntN(2) * coef / 4
			}
			solved(t, s)
			solved(t, diagonal)
		}
	}
}

// Without help, the best variable at each step would lead around in circles in these systems (of Beale and Chvátal).
func TestSolveEnds(t *testing.T) {
	bases := []api.System{
		system(6, row(0, 1, -11, -5, 18, 2, 0), row(0, 1, -3, -1, 2, 0, 2), row(1, 10, -57, -9, -24, 0, 0)),
		system(6, row(0, 1, -32, -4, 36, 4, 0), row(0, 2, -48, -2, 12, 0, 4), row(1, 3, -80, 2, -24, 0, 0)),
	}
	r := rand.New(rand.NewPCG(6, 27))
	var systems []api.System
	for _, base := range bases {
		for _, factor := range []int{1, 10, 100, -10} {
			s := copied(base)
			for j := range s.Cols {
				s.Rows[2].Coef[j] *= factor
			}
			systems = append(systems, s)
			for range 40 {
				systems = append(systems, reordered(s, identity(3), r.Perm(6)), reordered(s, r.Perm(3), r.Perm(6)))
			}
		}
	}
	ended := make(chan bool)
	go func() {
		for _, s := range systems {
			linear.Solve(s)
		}
		close(ended)
	}()
	select {
	case <-ended:
	case <-time.After(time.Minute):
		t.Fatal("Solve does not end")
	}
	for _, s := range systems {
		wantFound(t, s, solvable(s))
	}
}

func identity(n int) []int {
	var l []int
	for i := range n {
		l = append(l, i)
	}
	return l
}

// P6.3

func TestNeverBoth(t *testing.T) {
	r := rand.New(rand.NewPCG(6, 31))
	pairs := 0
	for range 3000 {
		rows, cols := 1+r.IntN(3), 1+r.IntN(3)
		s := random(r, rows, cols, 2, 2)
		solution, refutation := false, false
		for z := range 4 * 4 * 4 * 3 {
			v := vector(strconv.Itoa(1 + z%3))
			w := []string{}
			for i := range max(rows, cols) {
				d := z / 3 >> (2 * i) & 3
				if i < cols {
					v.Nums = append(v.Nums, strconv.Itoa(d))
				}
				if i < rows {
					w = append(w, strconv.Itoa(d-r.IntN(4)))
				}
			}
			solution = solution || linear.Check(s, v)
			refutation = refutation || linear.Refutes(s, w)
		}
		if solution && refutation {
			t.Fatalf("%v is solved, and refuted", s)
		}
		if a := solved(t, s); a.Found && refutation || !a.Found && solution {
			t.Fatalf("Solve(%v) = %v, but the opposite is proved", s, a)
		}
		if solution || refutation {
			pairs++
		}
	}
	if pairs < 1500 {
		t.Errorf("only %d systems were solved or refuted", pairs)
	}
}

func TestNeverBothForGreatSystems(t *testing.T) {
	r := rand.New(rand.NewPCG(6, 32))
	for range 200 {
		s, v := madeFor(r, 18, 64, 30000, 500)
		n, w := madeAgainst(r, 18, 64, 30000, 1000000000, 1000)
		for range 20 {
			draw := func() []string {
				var l []string
				for range 18 {
					l = append(l, strconv.Itoa(within(r, 1000)))
				}
				return l
			}
			if other := draw(); linear.Refutes(s, other) || linear.Refutes(s, w) {
				t.Fatalf("%v solves a system that is refuted", v)
			}
		}
		if linear.Check(n, v) || linear.Check(n, vector("1", slices.Repeat([]string{"0"}, 64)...)) {
			t.Fatalf("%v refute a system that is solved", w)
		}
	}
}

// P6.4

func TestMixturesSolve(t *testing.T) {
	r := rand.New(rand.NewPCG(6, 41))
	for range 300 {
		rows := 1 + r.IntN(9)
		s, made := madeFor(r, rows, rows+r.IntN(10), 20, 50)
		a := wantFound(t, s, true).Point
		// Another vector: what Solve says of the same variables in another order.
		order := r.Perm(s.Cols)
		back := backward(order)
		b := wantFound(t, reordered(s, identity(rows), order), true).Point
		b = vector(b.Den, permuted(b.Nums, back)...)
		for _, x := range []api.Vector{a, b, made} {
			for _, y := range []api.Vector{a, b, made} {
				p, q := 1+r.IntN(1000), 1+r.IntN(1000)
				m, err := linear.Mix(x, y, p, q)
				if err != api.OK || !linear.Check(s, m) || !solves(s, m) {
					t.Fatalf("Mix(%v, %v, %d, %d) = %v, %d does not solve %v", x, y, p, q, m, err, s)
				}
				wantMix(t, x, y, p, q)
				if linear.Equal(x, y) && (!linear.Equal(m, x) || !linear.Equal(y, m)) {
					t.Fatalf("Mix of %v and itself = %v", x, m)
				}
				if again, err := linear.Mix(m, x, q, p); err != api.OK || !linear.Check(s, again) {
					t.Fatalf("Mix(%v, %v, %d, %d) = %v, %d does not solve %v", m, x, q, p, again, err, s)
				}
			}
		}
	}
}

// Great systems have long numbers; then Mix may say that a mixture is too long, but only as its definition does.
func TestMixturesOfLongVectors(t *testing.T) {
	r := rand.New(rand.NewPCG(6, 42))
	long := 0
	for range 20 {
		s, made := madeFor(r, 18, 64, 30000, 500)
		a := wantFound(t, s, true).Point
		for _, b := range []api.Vector{made, a, vector("3", permuted(made.Nums, identity(64))...)} {
			wantMix(t, a, b, 7, 1000)
			m, err := linear.Mix(a, b, 7, 1000)
			if err == api.OK && linear.Check(s, b) && !linear.Check(s, m) {
				t.Fatalf("the mixture of %v and %v does not solve the system", a, b)
			}
		}
		long = max(long, len(a.Den))
	}
	if long < 75 {
		t.Errorf("the longest Den has only %d digits", long)
	}
}

// P6.5

// changed returns s after its rows were multiplied by numbers other than 0, and one of them was added to another one.
func changed(r *rand.Rand, s api.System) api.System {
	s = copied(s)
	for i := range s.Rows {
		factor := 1 + r.IntN(3)
		if r.IntN(2) == 0 {
			factor = -factor
		}
		s.Rows[i].Value *= factor
		for j := range s.Cols {
			s.Rows[i].Coef[j] *= factor
		}
	}
	from, to := r.IntN(len(s.Rows)), r.IntN(len(s.Rows))
	if from != to {
		s.Rows[to].Value += s.Rows[from].Value
		for j := range s.Cols {
			s.Rows[to].Coef[j] += s.Rows[from].Coef[j]
		}
	}
	return s
}

func TestChangedRows(t *testing.T) {
	r := rand.New(rand.NewPCG(6, 51))
	for range 400 {
		rows, cols := 1+r.IntN(6), 1+r.IntN(9)
		s := random(r, rows, cols, 1+r.IntN(30), 20)
		if r.IntN(3) == 0 {
			s, _ = madeFor(r, rows, cols, 30, 5)
		}
		other := changed(r, changed(r, s))
		a := solved(t, s)
		b := wantFound(t, other, a.Found)
		if !a.Found {
			continue
		}
		other = changed(r, other)
		for _, v := range []api.Vector{a.Point, b.Point} {
			if !linear.Check(s, v) || !linear.Check(other, v) {
				t.Fatalf("%v does not solve both of %v and %v", v, s, other)
			}
		}
		v := vector(a.Point.Den, slices.Clone(a.Point.Nums)...)
		v.Nums[r.IntN(cols)] = strconv.Itoa(r.IntN(5))
		if linear.Check(s, v) != linear.Check(other, v) {
			t.Fatalf("%v solves only one of %v and %v", v, s, other)
		}
	}
}

func TestMultipliedValues(t *testing.T) {
	r := rand.New(rand.NewPCG(6, 52))
	for range 400 {
		rows, cols := 1+r.IntN(7), r.IntN(12)
		s := random(r, rows, cols, 1+r.IntN(10), 9)
		a := solved(t, s)
		for _, factor := range []int{2, 7, 1000, 111111111} {
			other := copied(s)
			for i := range other.Rows {
				other.Rows[i].Value *= factor
			}
			if !linear.Valid(other) {
				t.Fatalf("%v is not valid", other)
			}
			wantFound(t, other, a.Found)
			if !a.Found && !linear.Refutes(other, a.Weights) {
				t.Fatalf("%v do not refute %v", a.Weights, other)
			}
		}
		for i := range s.Rows {
			s.Rows[i].Value = 0
		}
		wantFound(t, s, true)
	}
}

// P6.6

// reordered returns s with its rows and its variables in these orders.
func reordered(s api.System, rows, cols []int) api.System {
	other := api.System{Cols: s.Cols}
	for _, row := range permuted(s.Rows, rows) {
		other.Rows = append(other.Rows, api.Equation{Coef: permuted(row.Coef, cols), Value: row.Value})
	}
	return other
}

func permuted[E any](l []E, order []int) []E {
	var other []E
	for _, at := range order {
		other = append(other, l[at])
	}
	return other
}

// backward returns the order that undoes an order.
func backward(order []int) []int {
	back := make([]int, len(order))
	for i, at := range order {
		back[at] = i
	}
	return back
}

func TestOrderOfRowsAndVariables(t *testing.T) {
	r := rand.New(rand.NewPCG(6, 61))
	for range 400 {
		s := random(r, 1+r.IntN(7), 1+r.IntN(14), 1+r.IntN(20), 20)
		rows, cols := r.Perm(len(s.Rows)), r.Perm(s.Cols)
		other := reordered(s, rows, cols)
		a := solved(t, s)
		b := wantFound(t, other, a.Found)
		if a.Found {
			there := vector(a.Point.Den, permuted(a.Point.Nums, cols)...)
			back := vector(b.Point.Den, permuted(b.Point.Nums, backward(cols))...)
			if !linear.Check(other, there) || !linear.Check(s, back) || !linear.Check(reordered(s, rows, identity(s.Cols)), a.Point) {
				t.Fatalf("%v in the order %v, %v is solved by others", s, rows, cols)
			}
			continue
		}
		if !linear.Refutes(other, permuted(a.Weights, rows)) || !linear.Refutes(s, permuted(b.Weights, backward(rows))) {
			t.Fatalf("%v in the order %v, %v is refuted by others", s, rows, cols)
		}
	}
}

// P6.7

func TestFurtherRowsAndVariables(t *testing.T) {
	r := rand.New(rand.NewPCG(6, 71))
	refuted, found := 0, 0
	for range 400 {
		s := random(r, r.IntN(7), r.IntN(10), 1+r.IntN(20), 20)
		a := solved(t, s)
		more := copied(s)
		if a.Found {
			found++
			more.Cols++
			for i := range more.Rows {
				more.Rows[i].Coef = append(more.Rows[i].Coef, within(r, 30000))
			}
			wantFound(t, more, true)
			if !linear.Check(more, vector(a.Point.Den, append(slices.Clone(a.Point.Nums), "0")...)) {
				t.Fatalf("%v and 0 do not solve %v", a.Point, more)
			}
			continue
		}
		refuted++
		more.Rows = append(more.Rows, random(r, 1, s.Cols, 30000, 1000000000).Rows...)
		wantFound(t, more, false)
		if !linear.Refutes(more, append(slices.Clone(a.Weights), "0")) {
			t.Fatalf("%v and 0 do not refute %v", a.Weights, more)
		}
	}
	if refuted < 80 || found < 80 {
		t.Errorf("only %d systems were refuted, and %d solved", refuted, found)
	}
}

// At the limits, a further row or variable is too much.
func TestFurtherRowsAndVariablesAtTheLimits(t *testing.T) {
	r := rand.New(rand.NewPCG(6, 72))
	for range 20 {
		s, w := madeAgainst(r, 17, 63, 30000, 1000000, 100)
		for range 2 {
			s.Rows = append(s.Rows, random(r, 1, 63, 30000, 1000000000).Rows...)
			w = append(w, "0")
			if want := len(s.Rows) <= 18; linear.Refutes(s, w) != want {
				t.Fatalf("Refutes with %d rows = %t", len(s.Rows), !want)
			}
		}
		s, v := madeFor(r, 18, 63, 30000, 500)
		for range 2 {
			s.Cols++
			v.Nums = append(v.Nums, "0")
			for i := range s.Rows {
				s.Rows[i].Coef = append(s.Rows[i].Coef, within(r, 30000))
			}
			if want := s.Cols <= 64; linear.Check(s, v) != want {
				t.Fatalf("Check with %d variables = %t", s.Cols, !want)
			}
		}
	}
}

// systemOf returns a system that the bytes say.
func systemOf(data []byte) api.System {
	next := func(bound int) int {
		if len(data) == 0 {
			return 0
		}
		n := int(data[0]) % bound
		data = data[1:]
		return n
	}
	s := nought(next(6), next(8))
	coef, value := 1+next(120), 1+next(120)
	for i := range s.Rows {
		s.Rows[i].Value = next(2*value+1) - value
		for j := range s.Cols {
			s.Rows[i].Coef[j] = next(2*coef+1) - coef
		}
	}
	return s
}

func FuzzSolve(f *testing.F) {
	f.Add([]byte{2, 2, 9, 9, 3, 1, 1, 1, 1, 255})
	f.Add([]byte{3, 6, 60, 1, 0, 1, 200, 5, 18, 2, 0, 0, 1, 3, 1, 2, 0, 2, 1, 10, 57, 9, 24, 0, 0})
	f.Fuzz(func(t *testing.T, data []byte) {
		s := systemOf(data)
		wantFound(t, s, solvable(s))
	})
}

func FuzzMix(f *testing.F) {
	f.Add("1", "1", "0", "2", "0", "1", 1, 3)
	f.Add("x", "1", "0", "2", "-1", "1", 1, 1000)
	f.Fuzz(func(t *testing.T, denA, a0, a1, denB, b0, b1 string, p, q int) {
		a, b := vector(denA, a0, a1), vector(denB, b0, b1)
		wantMix(t, a, b, p, q)
		if linear.Equal(a, b) != equal(a, b) {
			t.Fatalf("Equal(%v, %v) = %t", a, b, !equal(a, b))
		}
		s := system(2, row(p%7, q%5, p%3), row(q%4, p%2, q%3))
		if linear.Check(s, a) != solves(s, a) || linear.Refutes(s, b.Nums) != refutes(s, b.Nums) {
			t.Fatalf("Check(%v, %v) = %t, Refutes(%v) = %t", s, a, linear.Check(s, a), b.Nums, linear.Refutes(s, b.Nums))
		}
	})
}

package network_test

import (
	"math"
	"math/big"
	"math/rand/v2"
	"slices"
	"testing"

	"putlog/api"
	"putlog/between"
	"putlog/network"
)

// The functions in this part make arguments.

func fix(point, x, y, tol int) api.Fix { return api.Fix{Point: point, X: x, Y: y, Tol: tol} }

func sight(from, to, dx, dy, tol int) api.Sight {
	return api.Sight{From: from, To: to, DX: dx, DY: dy, Tol: tol}
}

func place(x, y int) api.Place { return api.Place{X: x, Y: y} }

func box(lowX, highX, lowY, highY int) api.Box {
	return api.Box{LowX: lowX, HighX: highX, LowY: lowY, HighY: highY}
}

// only returns a network with these observations, which are fixes and sights.
func only(points int, observations ...any) api.Control {
	return with(api.Control{Points: points}, observations...)
}

// with returns c with these further observations.
func with(c api.Control, observations ...any) api.Control {
	c.Fixes, c.Sights = slices.Clone(c.Fixes), slices.Clone(c.Sights)
	for _, o := range observations {
		switch o := o.(type) {
		case api.Fix:
			c.Fixes = append(c.Fixes, o)
		case api.Sight:
			c.Sights = append(c.Sights, o)
		}
	}
	return c
}

// named returns c with those of its observations that have a number in l.
func named(c api.Control, l []int) api.Control {
	some := api.Control{Points: c.Points}
	for i, f := range c.Fixes {
		if slices.Contains(l, i) {
			some.Fixes = append(some.Fixes, f)
		}
	}
	for i, s := range c.Sights {
		if slices.Contains(l, len(c.Fixes)+i) {
			some.Sights = append(some.Sights, s)
		}
	}
	return some
}

// example returns the network of the chapter's examples.
func example() api.Control {
	return only(3, fix(0, 0, 0, 2), sight(0, 1, 100, 0, 3), sight(1, 2, 0, 50, 1), sight(0, 2, 104, 48, 2))
}

// inconsistent returns the network of the chapter's examples with the sight 3 by (111, 48).
func inconsistent() api.Control {
	c := example()
	c.Sights[2].DX = 111
	return c
}

// line returns 8 points in a row, the first of them fixed, each one away from the one before it by step.
func line(step int, tol int) api.Control {
	c := only(8, fix(0, step, -step, tol))
	for p := range 7 {
		c = with(c, sight(p, p+1, step, -step, tol))
	}
	return c
}

// dense returns 8 points, all of them fixed, with as many sights as there may be, five at each point.
func dense(far func() int, tol int) api.Control {
	c := api.Control{Points: 8}
	for p := range 8 {
		c = with(c, fix(p, far(), far(), tol), sight(p, (p+1)%8, far(), far(), tol), sight(p, (p+2)%8, far(), far(), tol))
		if p < 4 {
			c = with(c, sight(p, p+4, far(), far(), tol))
		}
	}
	return c
}

// notValid returns networks that are not valid, each for another reason.
func notValid() []api.Control {
	l := []api.Control{
		{Points: -1}, {Points: 9}, {Points: math.MinInt}, {Points: math.MaxInt}, only(0, fix(0, 0, 0, 0)), only(9, fix(0, 0, 0, 0)), only(1, sight(0, 0, 0, 0, 0)),
		{Points: 3, Fixes: slices.Repeat([]api.Fix{fix(0, 0, 0, 2)}, 9)},
		{Points: 3, Fixes: example().Fixes, Sights: slices.Repeat([]api.Sight{sight(0, 1, 0, 0, 2)}, 21)},
	}
	var wrong []any
	for _, p := range []int{-1, 3, 4, 8, 9, math.MinInt, math.MaxInt} {
		wrong = append(wrong, fix(p, 0, 0, 0), sight(p, 0, 0, 0, 0), sight(0, p, 0, 0, 0), sight(p, p, 0, 0, 0))
	}
	for _, far := range []int{10001, -10001, 1000000, math.MinInt, math.MaxInt} {
		wrong = append(wrong, fix(0, far, 0, 0), fix(0, 0, far, 0), sight(0, 1, far, 0, 0), sight(0, 1, 0, far, 0))
	}
	for _, tol := range []int{-1, 1001, math.MinInt, math.MaxInt} {
		wrong = append(wrong, fix(0, 0, 0, tol), sight(0, 1, 0, 0, tol))
	}
	for p := range 3 {
		wrong = append(wrong, sight(p, p, 0, 0, 0), sight(p, p, 0, 0, 1000))
	}
	for _, o := range wrong {
		// The wrong one comes first, alone and last.
		first, last := with(only(3, o), example().Fixes[0]), with(example(), o)
		for _, s := range example().Sights {
			first = with(first, s)
		}
		l = append(l, first, only(3, o), last)
	}
	return l
}

// some returns a network with up to so many points and observations of each kind; what contradicts, and what is not tied, is left to chance.
func some(r *rand.Rand, points, fixes, sights, far, tol int) api.Control {
	c := api.Control{Points: 1 + r.IntN(points)}
	for range r.IntN(fixes + 1) {
		c = with(c, fix(r.IntN(c.Points), r.IntN(2*far+1)-far, r.IntN(2*far+1)-far, r.IntN(tol+1)))
	}
	for range r.IntN(sights+1) * min(1, c.Points-1) {
		from := r.IntN(c.Points)
		to := (from + 1 + r.IntN(c.Points-1)) % c.Points
		c = with(c, sight(from, to, r.IntN(2*far+1)-far, r.IntN(2*far+1)-far, r.IntN(tol+1)))
	}
	return c
}

// kept returns a network with up to so many points and observations of each kind, and places that it allows, some only just.
func kept(r *rand.Rand, points, fixes, sights, far, tol int) (api.Control, []api.Place) {
	c := api.Control{Points: 1 + r.IntN(points)}
	var at []api.Place
	for range c.Points {
		at = append(at, place(r.IntN(far)-far/2, r.IntN(far)-far/2))
	}
	for range r.IntN(fixes + 1) {
		c = with(c, fixOf(r, at, tol))
	}
	for range r.IntN(sights+1) * min(1, c.Points-1) {
		c = with(c, sightOf(r, at, tol))
	}
	return c, at
}

// fixOf returns a fix that the places keep.
func fixOf(r *rand.Rand, at []api.Place, most int) api.Fix {
	p, tol := r.IntN(len(at)), r.IntN(most+1)
	return fix(p, at[p].X+r.IntN(2*tol+1)-tol, at[p].Y+r.IntN(2*tol+1)-tol, tol)
}

// sightOf returns a sight that the places, of which there are at least two, keep.
func sightOf(r *rand.Rand, at []api.Place, most int) api.Sight {
	from, tol := r.IntN(len(at)), r.IntN(most+1)
	to := (from + 1 + r.IntN(len(at)-1)) % len(at)
	dx, dy := at[to].X-at[from].X, at[to].Y-at[from].Y
	return sight(from, to, dx+r.IntN(2*tol+1)-tol, dy+r.IntN(2*tol+1)-tol, tol)
}

// The functions in this part say the definitions of the chapter again.

// count returns the number of observations.
func count(c api.Control) int { return len(c.Fixes) + len(c.Sights) }

func apart(a, b int) int { return max(a-b, b-a) }

// keeps reports whether c, which is valid, allows these places.
func keeps(c api.Control, l []api.Place) bool {
	for _, p := range l {
		if apart(p.X, 0) > 1000000 || apart(p.Y, 0) > 1000000 {
			return false
		}
	}
	for _, f := range c.Fixes {
		if apart(l[f.Point].X, f.X) > f.Tol || apart(l[f.Point].Y, f.Y) > f.Tol {
			return false
		}
	}
	for _, s := range c.Sights {
		if apart(l[s.To].X-l[s.From].X, s.DX) > s.Tol || apart(l[s.To].Y-l[s.From].Y, s.DY) > s.Tol {
			return false
		}
	}
	return true
}

// boundsOf returns the bounds of X, or else of Y.
func boundsOf(c api.Control, ofX bool) api.Between {
	b := api.Between{N: c.Points + 1}
	add := func(from, to, dx, dy, tol int) {
		by := dy
		if ofX {
			by = dx
		}
		b.Bounds = append(b.Bounds, api.Bound{From: from, To: to, Most: by + tol}, api.Bound{From: to, To: from, Most: tol - by})
	}
	for _, f := range c.Fixes {
		add(c.Points, f.Point, f.X, f.Y, f.Tol)
	}
	for _, s := range c.Sights {
		add(s.From, s.To, s.DX, s.DY, s.Tol)
	}
	return b
}

const none = 1 << 60

// greatest returns by how much the value of each variable (the column) can be greater than that of each one (the row), and whether there are values at all; none, if there is no bound. It lets chains go through ever more variables.
func greatest(b api.Between) ([][]int, bool) {
	d := make([][]int, b.N)
	for i := range d {
		d[i] = slices.Repeat([]int{none}, b.N)
		d[i][i] = 0
	}
	for _, x := range b.Bounds {
		d[x.From][x.To] = min(d[x.From][x.To], x.Most)
	}
	for through := range d {
		for i := range d {
			for k := range d {
				if d[i][through] < none && d[through][k] < none {
					d[i][k] = min(d[i][k], d[i][through]+d[through][k])
				}
			}
		}
		for i := range d {
			if d[i][i] < 0 {
				return nil, false
			}
		}
	}
	return d, true
}

// connected returns for each point, and for the origin, a number that is the same for those that observations connect.
func connected(c api.Control) []int {
	group := make([]int, c.Points+1)
	for p := range group {
		group[p] = p
	}
	join := func(a, b int) {
		from, to := group[a], group[b]
		for p := range group {
			if group[p] == from {
				group[p] = to
			}
		}
	}
	for _, f := range c.Fixes {
		join(f.Point, c.Points)
	}
	for _, s := range c.Sights {
		join(s.From, s.To)
	}
	return group
}

// isTied reports whether the point p is tied.
func isTied(c api.Control, p int) bool {
	group := connected(c)
	return group[p] == group[c.Points]
}

// allTied reports whether all points are.
func allTied(c api.Control) bool {
	for p := range c.Points {
		if !isTied(c, p) {
			return false
		}
	}
	return true
}

// solved returns the coordinates, X or else Y, with the least sum of squares; all points are tied.
func solved(c api.Control, ofX bool) []*big.Rat {
	rows := make([][]*big.Rat, c.Points)
	for p := range rows {
		for range c.Points + 1 {
			rows[p] = append(rows[p], new(big.Rat))
		}
	}
	add := func(p, column, n int) { rows[p][column].Add(rows[p][column], big.NewRat(int64(n), 1)) }
	for i, b := range boundsOf(c, ofX).Bounds {
		// Each observation is seen from both of its ends, and its bounds are Tol apart from what was observed.
		if b.To == c.Points {
			continue
		}
		add(b.To, b.To, 1)
		add(b.To, c.Points, b.Most-tolerance(c, i/2))
		if b.From != c.Points {
			add(b.To, b.From, -1)
		}
	}
	return solve(rows)
}

// tolerance returns that of the observation i.
func tolerance(c api.Control, i int) int {
	if i < len(c.Fixes) {
		return c.Fixes[i].Tol
	}
	return c.Sights[i-len(c.Fixes)].Tol
}

// solve returns the only solution of the equations, each of which ends with its right side.
func solve(rows [][]*big.Rat) []*big.Rat {
	for k := range rows {
		p := k
		for rows[p][k].Sign() == 0 {
			p++
		}
		rows[k], rows[p] = rows[p], rows[k]
		pivot := new(big.Rat).Set(rows[k][k])
		for _, x := range rows[k] {
			x.Quo(x, pivot)
		}
		for i := range rows {
			factor := new(big.Rat).Set(rows[i][k])
			for j := range rows[i] {
				if i != k {
					rows[i][j].Sub(rows[i][j], new(big.Rat).Mul(factor, rows[k][j]))
				}
			}
		}
	}
	var values []*big.Rat
	for _, row := range rows {
		values = append(values, row[len(rows)])
	}
	return values
}

// lists calls check for all lists of this length with values from low to high.
func lists(length, low, high int, check func(x []int)) {
	x := slices.Repeat([]int{low}, length)
	for {
		check(slices.Clone(x))
		i := 0
		for ; i < length && x[i] == high; i++ {
			x[i] = low
		}
		if i == length {
			return
		}
		x[i]++
	}
}

// The functions in this part check what a call returns.

func checkAllowed(t *testing.T, c api.Control, l []api.Place, want bool) {
	t.Helper()
	if network.Allowed(c, l) != want {
		t.Errorf("Allowed(%v, %v) = %v", c, l, !want)
	}
}

func checkBox(t *testing.T, c api.Control, p int, want api.Box) {
	t.Helper()
	if got, err := network.Box(c, p); err != api.OK || got != want {
		t.Errorf("Box(%v, %d) = %v, %v; want %v", c, p, got, err, want)
	}
}

func checkNoBox(t *testing.T, c api.Control, p int) {
	t.Helper()
	if got, err := network.Box(c, p); err != 100 || got != (api.Box{}) {
		t.Errorf("Box(%v, %d) = %v, %v", c, p, got, err)
	}
}

func checkApart(t *testing.T, c api.Control, p, q int, want api.Box) {
	t.Helper()
	if got, err := network.Apart(c, p, q); err != api.OK || got != want {
		t.Errorf("Apart(%v, %d, %d) = %v, %v; want %v", c, p, q, got, err, want)
	}
}

func checkNotApart(t *testing.T, c api.Control, p, q int) {
	t.Helper()
	if got, err := network.Apart(c, p, q); err != 100 || got != (api.Box{}) {
		t.Errorf("Apart(%v, %d, %d) = %v, %v", c, p, q, got, err)
	}
}

func checkBlame(t *testing.T, c api.Control, want ...int) {
	t.Helper()
	if got, found := network.Blame(c); !found || !slices.Equal(got, want) {
		t.Errorf("Blame(%v) = %v, %v; want %v", c, got, found, want)
	}
}

func checkNoBlame(t *testing.T, c api.Control) {
	t.Helper()
	if got, found := network.Blame(c); found || got != nil {
		t.Errorf("Blame(%v) = %v, %v", c, got, found)
	}
}

func checkLeast(t *testing.T, c api.Control, x, y []int, den int) {
	t.Helper()
	got, err := network.Least(c)
	if err != api.OK || !slices.Equal(got.X, x) || !slices.Equal(got.Y, y) || got.Den != den {
		t.Errorf("Least(%v) = %v, %v; want %v, %v, %d", c, got, err, x, y, den)
	}
}

func checkNoLeast(t *testing.T, c api.Control) {
	t.Helper()
	if got, err := network.Least(c); err != 100 || len(got.X)+len(got.Y) > 0 || got.Den != 0 {
		t.Errorf("Least(%v) = %v, %v", c, got, err)
	}
}

// checkAll compares what all functions say of c, which is valid, with the definitions.
func checkAll(t *testing.T, c api.Control) (consistent bool) {
	t.Helper()
	if !network.Valid(c) {
		t.Errorf("Valid(%v) = false", c)
	}
	x, foundX := greatest(boundsOf(c, true))
	y, foundY := greatest(boundsOf(c, false))
	group := connected(c)
	for p := -1; p <= c.Points; p++ {
		for q := -1; q <= c.Points; q++ {
			if min(p, q) < 0 || max(p, q) == c.Points || !foundX || !foundY || group[p] != group[q] {
				checkNotApart(t, c, p, q)
				continue
			}
			checkApart(t, c, p, q, box(-x[q][p], x[p][q], -y[q][p], y[p][q]))
		}
		if p < 0 || p == c.Points || !foundX || !foundY || group[p] != group[c.Points] {
			checkNoBox(t, c, p)
			continue
		}
		checkBox(t, c, p, box(-x[p][c.Points], x[c.Points][p], -y[p][c.Points], y[c.Points][p]))
	}
	checkBlamed(t, c, foundX, foundY)
	checkSquares(t, c)
	return foundX && foundY
}

// checkBlamed compares what Blame names with the cycles of the bounds.
func checkBlamed(t *testing.T, c api.Control, foundX, foundY bool) {
	t.Helper()
	if foundX && foundY {
		checkNoBlame(t, c)
		return
	}
	cycle, _ := between.Cycle(boundsOf(c, true))
	if other, _ := between.Cycle(boundsOf(c, false)); foundX || !foundY && len(other) < len(cycle) {
		cycle = other
	}
	var want []int
	for i := range count(c) {
		if slices.Contains(cycle, 2*i) || slices.Contains(cycle, 2*i+1) {
			want = append(want, i)
		}
	}
	checkBlame(t, c, want...)
}

// checkSquares compares what Least returns with the solution of its equations.
func checkSquares(t *testing.T, c api.Control) {
	t.Helper()
	if !allTied(c) {
		checkNoLeast(t, c)
		return
	}
	got, err := network.Least(c)
	if err != api.OK || got.Den < 1 || len(got.X) != c.Points || len(got.Y) != c.Points {
		t.Fatalf("Least(%v) = %v, %v", c, got, err)
	}
	common := big.NewInt(int64(got.Den))
	x, y := solved(c, true), solved(c, false)
	for p := range c.Points {
		if big.NewRat(int64(got.X[p]), int64(got.Den)).Cmp(x[p]) != 0 || big.NewRat(int64(got.Y[p]), int64(got.Den)).Cmp(y[p]) != 0 {
			t.Errorf("Least(%v) = %v, but the point %d is at %v, %v", c, got, p, x[p], y[p])
		}
		for _, n := range []int{got.X[p], got.Y[p]} {
			common.GCD(nil, nil, common, big.NewInt(int64(max(n, -n))))
		}
	}
	if !common.IsInt64() || common.Int64() != 1 {
		t.Errorf("Least(%v) = %v, which %v divides", c, got, common)
	}
}

// P10.1: Valid

func TestValid(t *testing.T) {
	for _, c := range []api.Control{
		{}, {Fixes: []api.Fix{}, Sights: []api.Sight{}}, {Points: 1}, {Points: 8}, example(), inconsistent(), line(10000, 1000), line(-10000, 1000), dense(func() int { return -10000 }, 1000),
		only(1, fix(0, 10000, -10000, 1000)), only(8, fix(7, -10000, 10000, 0)), only(2, sight(1, 0, 10000, -10000, 1000)), only(8, sight(7, 0, -10000, 10000, 0), sight(0, 7, 5, 5, 5)),
		only(2, sight(0, 1, 5, 5, 0), sight(0, 1, 5, 5, 0), fix(0, 0, 0, 0), fix(0, 0, 0, 0)),
		{Points: 2, Fixes: slices.Repeat([]api.Fix{fix(1, 0, 0, 2)}, 8)}, {Points: 2, Sights: slices.Repeat([]api.Sight{sight(0, 1, 0, 0, 2)}, 20)},
	} {
		if !network.Valid(c) {
			t.Errorf("Valid(%v) = false", c)
		}
	}
	for _, c := range notValid() {
		if network.Valid(c) {
			t.Errorf("Valid(%v) = true", c)
		}
	}
}

func TestNothingFollowsFromNetworksThatAreNotValid(t *testing.T) {
	for _, c := range notValid() {
		for _, n := range []int{0, 1, 2, 3, 8, 9} {
			checkAllowed(t, c, make([]api.Place, n), false)
		}
		for p := -1; p <= 9; p++ {
			checkNoBox(t, c, p)
			for q := -1; q <= 9; q++ {
				checkNotApart(t, c, p, q)
			}
		}
		checkNoBlame(t, c)
		checkNoLeast(t, c)
		// A contradiction is not named either.
		checkNoBlame(t, with(c, fix(0, 10, 0, 0), fix(0, 20, 0, 0)))
	}
}

// P10.1: Allowed

func TestAllowed(t *testing.T) {
	for _, c := range []struct {
		c    api.Control
		l    []api.Place
		want bool
	}{
		{api.Control{}, nil, true}, {api.Control{}, []api.Place{}, true}, {api.Control{}, []api.Place{{}}, false},
		{example(), []api.Place{{}, place(102, -1), place(103, 49)}, true}, {example(), []api.Place{{}, place(101, -1), place(103, 49)}, false},
		{example(), []api.Place{{}, place(102, -1)}, false}, {example(), []api.Place{{}, place(102, -1), place(103, 49), {}}, false}, {example(), nil, false},
		{example(), []api.Place{place(2, 2), place(104, 1), place(105, 51)}, true}, {example(), []api.Place{place(3, 2), place(104, 1), place(105, 51)}, false}, {example(), []api.Place{place(2, 3), place(104, 1), place(105, 51)}, false},
		{only(1), []api.Place{place(1000000, -1000000)}, true}, {only(1), []api.Place{place(-1000000, 1000000)}, true},
		{only(1), []api.Place{place(1000001, 0)}, false}, {only(1), []api.Place{place(-1000001, 0)}, false}, {only(1), []api.Place{place(0, 1000001)}, false}, {only(1), []api.Place{place(0, -1000001)}, false},
		{only(2, sight(0, 1, 10, 0, 0)), []api.Place{place(999990, 0), place(1000000, 0)}, true}, {only(2, sight(0, 1, 10, 0, 0)), []api.Place{place(999991, 0), place(1000001, 0)}, false},
		{only(2), []api.Place{place(math.MinInt, 0), place(math.MaxInt, 0)}, false}, {only(2, sight(0, 1, 0, 0, 1)), []api.Place{place(math.MinInt, 0), place(math.MaxInt, 0)}, false}, {only(2, sight(1, 0, -1, 0, 0)), []api.Place{place(0, math.MaxInt), place(1, math.MinInt)}, false},
		{only(2, sight(0, 1, 10, 20, 0)), []api.Place{place(5, 5), place(15, 25)}, true}, {only(2, sight(0, 1, 10, 20, 0)), []api.Place{place(15, 25), place(5, 5)}, false}, {only(2, sight(1, 0, -10, -20, 0)), []api.Place{place(5, 5), place(15, 25)}, true},
		{only(2, fix(1, 7, 8, 0)), []api.Place{place(7, 8), place(7, 8)}, true}, {only(2, fix(1, 7, 8, 0)), []api.Place{place(7, 8), place(7, 7)}, false}, {only(2, fix(1, 7, 8, 0)), []api.Place{place(0, 0), place(7, 8)}, true},
		{only(1, fix(0, 10000, -10000, 1000)), []api.Place{place(11000, -11000)}, true}, {only(1, fix(0, 10000, -10000, 1000)), []api.Place{place(9000, -9000)}, true}, {only(1, fix(0, 10000, -10000, 1000)), []api.Place{place(11001, -10000)}, false}, {only(1, fix(0, 10000, -10000, 1000)), []api.Place{place(10000, -8999)}, false},
		{only(1, fix(0, 0, 0, 9), fix(0, 3, 0, 1)), []api.Place{place(5, 0)}, false}, {only(1, fix(0, 3, 0, 1), fix(0, 0, 0, 9)), []api.Place{place(5, 0)}, false}, {only(1, fix(0, 3, 0, 1), fix(0, 0, 0, 9)), []api.Place{place(4, 0)}, true},
	} {
		checkAllowed(t, c.c, c.l, c.want)
	}
}

func TestAllowedAroundEachObservation(t *testing.T) {
	at := []api.Place{place(50, -70), place(-20, 30)}
	for tol := range 4 {
		for _, c := range []api.Control{only(2, fix(0, 50, -70, tol)), only(2, sight(0, 1, -70, 100, tol)), only(2, sight(1, 0, 70, -100, tol))} {
			lists(2, -5, 5, func(by []int) {
				l := []api.Place{place(at[0].X+by[0], at[0].Y+by[1]), at[1]}
				checkAllowed(t, c, l, max(by[0], by[1]) <= tol && min(by[0], by[1]) >= -tol)
			})
		}
	}
}

func TestAllowedSomePlaces(t *testing.T) {
	r := rand.New(rand.NewPCG(10, 1))
	allowed, others := 0, 0
	for range 20000 {
		c, at := kept(r, 8, 8, 20, 200, 20)
		checkAllowed(t, c, at, true)
		p, by := r.IntN(len(at)), r.IntN(60)-30
		if r.IntN(2) == 0 {
			at[p].X += by
		} else {
			at[p].Y += by
		}
		checkAllowed(t, c, at, keeps(c, at))
		if keeps(c, at) {
			allowed++
		} else {
			others++
		}
	}
	if allowed < 1000 || others < 1000 {
		t.Errorf("%d were allowed, and %d not", allowed, others)
	}
}

// P10.1: Box and Apart

func TestBoxAndApartExamples(t *testing.T) {
	checkBox(t, example(), 0, box(-2, 2, -2, 2))
	checkBox(t, example(), 1, box(99, 105, -5, 3))
	checkBox(t, example(), 2, box(100, 106, 44, 52))
	checkApart(t, example(), 0, 2, box(102, 104, 46, 50))
	checkApart(t, example(), 2, 0, box(-104, -102, -50, -46))
	checkApart(t, example(), 1, 1, box(0, 0, 0, 0))
	for p := range 3 {
		checkNoBox(t, inconsistent(), p)
		checkNotApart(t, inconsistent(), p, p)
		checkNotApart(t, inconsistent(), p, 0)
	}
	// One coordinate without values is enough.
	checkNoBox(t, only(1, fix(0, 0, 0, 1), fix(0, 3, 0, 1)), 0)
	checkNoBox(t, only(1, fix(0, 0, 0, 1), fix(0, 0, 3, 1)), 0)
	checkBox(t, only(1, fix(0, 0, 0, 1), fix(0, 2, -2, 1)), 0, box(1, 1, -1, -1))
	checkNotApart(t, only(1, fix(0, 0, 0, 1), fix(0, 0, 3, 1)), 0, 0)
	// Also one that has nothing to do with the points.
	checkNoBox(t, only(3, fix(0, 0, 0, 1), sight(1, 2, 0, 0, 0), sight(1, 2, 0, 1, 0)), 0)
	checkNotApart(t, only(3, fix(0, 0, 0, 1), sight(1, 2, 0, 0, 0), sight(1, 2, 1, 0, 0)), 0, 0)
}

func TestBoxesOfWhatIsNotAPoint(t *testing.T) {
	for _, c := range []api.Control{{}, only(1, fix(0, 0, 0, 0)), example(), dense(func() int { return 0 }, 5)} {
		for _, p := range []int{-1, -2, c.Points, c.Points + 1, 9, 100, math.MinInt, math.MaxInt} {
			checkNoBox(t, c, p)
			checkNotApart(t, c, p, 0)
			checkNotApart(t, c, 0, p)
			checkNotApart(t, c, p, p)
		}
	}
}

func TestTiedAndConnectedPoints(t *testing.T) {
	// 0 and 1 are tied, 2 and 3 are connected, 4 is alone, 5 is tied by its own fix.
	c := only(6, fix(1, 10, 20, 1), sight(0, 1, 5, 5, 1), sight(3, 2, 7, 0, 2), fix(5, -100, 0, 3))
	tied, connected := []int{0, 1, 5}, [][2]int{{2, 3}, {3, 2}, {2, 2}, {3, 3}, {4, 4}}
	for p := range 6 {
		if slices.Contains(tied, p) {
			continue
		}
		checkNoBox(t, c, p)
		for q := range 6 {
			if !slices.Contains(connected, [2]int{p, q}) {
				checkNotApart(t, c, p, q)
				checkNotApart(t, c, q, p)
			}
		}
	}
	checkBox(t, c, 0, box(3, 7, 13, 17))
	checkBox(t, c, 1, box(9, 11, 19, 21))
	checkBox(t, c, 5, box(-103, -97, -3, 3))
	checkApart(t, c, 2, 3, box(-9, -5, -2, 2))
	checkApart(t, c, 3, 2, box(5, 9, -2, 2))
	checkApart(t, c, 0, 5, box(-110, -100, -20, -10))
	checkApart(t, c, 4, 4, box(0, 0, 0, 0))
	checkApart(t, c, 3, 3, box(0, 0, 0, 0))
	checkNoBox(t, only(1), 0)
	checkNoBox(t, only(2, sight(0, 1, 0, 0, 0)), 1)
	checkApart(t, only(2, sight(0, 1, 1, 2, 0)), 1, 0, box(-1, -1, -2, -2))
}

func TestFarthestBoxes(t *testing.T) {
	for _, step := range []int{10000, -10000, 1, 0} {
		for _, tol := range []int{0, 1, 1000} {
			c := line(step, tol)
			for p := range 8 {
				n := p + 1
				checkBox(t, c, p, box(n*(step-tol), n*(step+tol), n*(-step-tol), n*(-step+tol)))
				for q := p; q < 8; q++ {
					n := q - p
					checkApart(t, c, p, q, box(n*(step-tol), n*(step+tol), n*(-step-tol), n*(-step+tol)))
					checkApart(t, c, q, p, box(-n*(step+tol), -n*(step-tol), -n*(-step+tol), -n*(-step-tol)))
				}
			}
			checkNoBlame(t, c)
		}
	}
}

// P10.1: Blame

func TestBlameExamples(t *testing.T) {
	checkNoBlame(t, example())
	checkBlame(t, inconsistent(), 1, 2, 3)
	for _, c := range []api.Control{{}, only(1), only(8), only(2, sight(0, 1, 0, 0, 0)), line(10000, 0), only(1, fix(0, 0, 0, 1), fix(0, 2, 2, 1))} {
		checkNoBlame(t, c)
	}
	for _, c := range []struct {
		c    api.Control
		want []int
	}{
		{only(1, fix(0, 0, 0, 1), fix(0, 3, 0, 1)), []int{0, 1}}, {only(1, fix(0, 3, 0, 1), fix(0, 0, 0, 1)), []int{0, 1}}, {only(1, fix(0, 0, 0, 1), fix(0, 0, 3, 1)), []int{0, 1}},
		{only(2, sight(0, 1, 0, 0, 1), sight(1, 0, 0, 3, 1)), []int{0, 1}}, {only(2, sight(0, 1, 0, 0, 1), sight(0, 1, 0, 5, 5), sight(0, 1, 0, -3, 1)), []int{0, 2}},
		// What is not tied can contradict as well, and fixes come before sights.
		{only(3, fix(0, 0, 0, 1), sight(1, 2, 0, 0, 0), sight(1, 2, 0, 1, 0)), []int{1, 2}},
		{only(2, fix(0, 0, 0, 0), sight(0, 1, 10, 0, 0), fix(1, 11, 0, 0)), []int{0, 1, 2}},
		{only(3, sight(2, 1, 1, 0, 0), sight(1, 0, 1, 0, 0), sight(2, 0, 3, 0, 0)), []int{0, 1, 2}},
		// X comes before Y, unless Y has fewer bounds.
		{only(1, fix(0, 0, 0, 0), fix(0, 1, 0, 0), fix(0, 0, 1, 0)), []int{0, 1}}, {only(1, fix(0, 0, 0, 0), fix(0, 0, 1, 0), fix(0, 1, 0, 0)), []int{0, 2}},
		{only(2, fix(0, 0, 0, 0), fix(1, 1, 0, 0), fix(0, 0, 1, 0), sight(0, 1, 0, 0, 0)), []int{0, 2}},
		{only(2, fix(0, 0, 0, 0), fix(1, 0, 1, 0), fix(0, 1, 0, 0), sight(0, 1, 0, 0, 0)), []int{0, 2}},
		{only(2, fix(0, 0, 0, 0), fix(1, 1, 1, 0), sight(0, 1, 0, 1, 0), sight(0, 1, 1, 0, 0)), []int{2, 3}},
		{only(2, fix(0, 0, 0, 0), fix(1, 1, 2, 0), sight(0, 1, 0, 2, 1), sight(0, 1, 1, 0, 1)), []int{0, 1, 3}},
		{only(2, fix(0, 0, 0, 0), fix(1, 2, 1, 0), sight(0, 1, 2, 0, 1), sight(0, 1, 0, 1, 1)), []int{0, 1, 3}},
		// Of several, those of the lexicographically first cycle: the first bound of an observation comes before the second one.
		{only(1, fix(0, 0, 0, 0), fix(0, 5, 0, 0), fix(0, 9, 0, 0)), []int{0, 1}}, {only(1, fix(0, 0, 0, 9), fix(0, 5, 0, 0), fix(0, 9, 0, 0)), []int{1, 2}},
		{only(1, fix(0, 9, 0, 2), fix(0, 5, 0, 3), fix(0, 0, 0, 1)), []int{0, 2}},
		{only(1, fix(0, 5, 0, 0), fix(0, 9, 0, 0), fix(0, 0, 0, 0)), []int{0, 1}}, {only(1, fix(0, 5, 0, 0), fix(0, 0, 0, 0), fix(0, 9, 0, 0)), []int{0, 2}},
	} {
		checkBlame(t, c.c, c.want...)
		checkAll(t, c.c)
	}
}

func TestLongestBlame(t *testing.T) {
	for _, step := range []int{1100, -1100, 3} {
		for _, tol := range []int{0, 1, 100} {
			c := line(step, tol)
			c = with(c, fix(7, 8*step, -8*step+9*tol, tol))
			checkNoBlame(t, c)
			c.Fixes[1].Y++
			checkBlame(t, c, 0, 1, 2, 3, 4, 5, 6, 7, 8)
			c.Fixes[1].Y -= 18*tol + 1
			checkNoBlame(t, c)
			c.Fixes[1].Y--
			checkBlame(t, c, 0, 1, 2, 3, 4, 5, 6, 7, 8)
			// A shorter one for X.
			c = with(c, sight(3, 5, 2*step, 0, tol), sight(4, 5, step, 0, tol))
			c.Sights[7].DX += 3*tol + 1
			c.Sights[7].DY, c.Sights[8].DY = -2*step, -step
			checkBlame(t, c, 5, 6, 9)
		}
	}
	c := dense(func() int { return 0 }, 0)
	c.Sights[19].DY = -1
	checkAll(t, c)
	if l, _ := network.Blame(c); !slices.Contains(l, 27) {
		t.Errorf("Blame(%v) = %v", c, l)
	}
}

// P10.1: Least

func TestLeastExamples(t *testing.T) {
	checkLeast(t, example(), []int{0, 304, 308}, []int{0, -2, 146}, 3)
	checkLeast(t, api.Control{}, nil, nil, 1)
	checkLeast(t, only(1, fix(0, -7, 9, 5)), []int{-7}, []int{9}, 1)
	checkLeast(t, only(1, fix(0, 0, 0, 0)), []int{0}, []int{0}, 1)
	checkLeast(t, only(1, fix(0, 4, 0, 0), fix(0, 6, 2, 3)), []int{5}, []int{1}, 1)
	checkLeast(t, only(1, fix(0, 4, 0, 0), fix(0, 7, 2, 3)), []int{11}, []int{2}, 2)
	checkLeast(t, only(1, fix(0, 4, 0, 0), fix(0, 6, -3, 3)), []int{10}, []int{-3}, 2)
	checkLeast(t, only(1, fix(0, 0, 0, 0), fix(0, 0, 0, 0), fix(0, 1, 0, 0)), []int{1}, []int{0}, 3)
	checkLeast(t, only(2, fix(0, 0, 0, 0), fix(1, 10, 0, 0), sight(0, 1, 13, -3, 0)), []int{-1, 11}, []int{1, -1}, 1)
	checkLeast(t, only(2, fix(1, 3, 4, 0), sight(0, 1, 10, -20, 0)), []int{-7, 3}, []int{24, 4}, 1)
	// Tolerances play no part, nor do contradictions.
	c := inconsistent()
	checkLeast(t, c, []int{0, 311, 322}, []int{0, -2, 146}, 3)
	c.Fixes[0].Tol, c.Sights[0].Tol, c.Sights[1].Tol, c.Sights[2].Tol = 1000, 0, 999, 7
	checkLeast(t, c, []int{0, 311, 322}, []int{0, -2, 146}, 3)
}

func TestLeastOfPointsThatAreNotTied(t *testing.T) {
	for _, c := range []api.Control{
		only(1), only(8), only(2, fix(0, 0, 0, 0)), only(2, fix(1, 0, 0, 0)), only(2, sight(0, 1, 0, 0, 0)), only(2, sight(0, 1, 0, 0, 0), sight(1, 0, 0, 0, 0)),
		only(4, fix(0, 0, 0, 0), sight(0, 1, 0, 0, 0), sight(2, 3, 0, 0, 0)), only(4, fix(3, 0, 0, 0), sight(0, 1, 0, 0, 0), sight(1, 2, 0, 0, 0), sight(2, 0, 0, 0, 0)),
		only(3, sight(0, 1, 0, 0, 0), sight(1, 2, 0, 0, 0), sight(2, 0, 9, 0, 0)),
	} {
		checkNoLeast(t, c)
	}
	// Sights tie in either direction, and in any order.
	for _, order := range [][]int{{0, 1, 2, 3, 4, 5, 6}, {6, 5, 4, 3, 2, 1, 0}, {3, 0, 5, 1, 6, 2, 4}} {
		for back := range 2 {
			c := only(8, fix(7, 1, 2, 0))
			for _, p := range order {
				c = with(c, sight(p+back, p+1-back, 10, 0, 0))
			}
			step := 10 - 20*back
			var x []int
			for p := range 8 {
				x = append(x, 1-(7-p)*step)
			}
			checkLeast(t, c, x, slices.Repeat([]int{2}, 8), 1)
			c.Fixes[0].Point = 0
			checkAll(t, c)
			checkNoLeast(t, api.Control{Points: 8, Sights: c.Sights})
			checkNoLeast(t, api.Control{Points: 8, Fixes: c.Fixes, Sights: c.Sights[1:]})
		}
	}
}

func TestLeastOfGreatNumbers(t *testing.T) {
	r := rand.New(rand.NewPCG(10, 2))
	sign := func() int { return 10000 - 20000*r.IntN(2) }
	near := func() int { return (10000 - r.IntN(3)) * (1 - 2*r.IntN(2)) }
	for range 150 {
		checkSquares(t, dense(sign, 1000))
		checkSquares(t, dense(near, 1000))
	}
	checkSquares(t, line(10000, 0))
	checkSquares(t, line(-10000, 0))
	for _, far := range []int{10000, -10000, 9999} {
		c := dense(func() int { return far }, 0)
		for p := range 8 {
			c.Fixes[p].Point = 7
			checkSquares(t, c)
		}
	}
	greatest := 0
	for range 400 {
		c := dense(near, 1000)
		for _, i := range r.Perm(20)[:r.IntN(4)] {
			c.Sights[i].To = (c.Sights[i].From + 3) % 8
		}
		checkSquares(t, c)
		got, _ := network.Least(c)
		greatest = max(greatest, got.Den)
	}
	if greatest < 400000 {
		t.Errorf("no denominator was greater than %d", greatest)
	}
}

// P10.1: all functions against the definitions

// values returns all lists of values of the points, from -span to span, that b, the bounds of X or of Y, allow.
func values(b api.Between, span int) [][]int {
	var all [][]int
	lists(b.N-1, -span, span, func(x []int) {
		at := append(x, 0)
		if !slices.ContainsFunc(b.Bounds, func(y api.Bound) bool { return at[y.To]-at[y.From] > y.Most }) {
			all = append(all, x)
		}
	})
	return all
}

// checkBetween compares the least and the greatest differences that a call found with those of all values; from is -1 for the origin.
func checkBetween(t *testing.T, c api.Control, all [][]int, from, to, low, high int) {
	t.Helper()
	least, most := none, -none
	for _, x := range all {
		d := x[to]
		if from >= 0 {
			d -= x[from]
		}
		least, most = min(least, d), max(most, d)
	}
	if least != low || most != high {
		t.Errorf("%v: %d from %d is from %d to %d, not from %d to %d", c, to, from, least, most, low, high)
	}
}

// checkWhole compares what Box, Apart and Blame say of c with all values up to span, which is great enough for all that is tied.
func checkWhole(t *testing.T, c api.Control, span int) (consistent bool) {
	t.Helper()
	x, y := values(boundsOf(c, true), span), values(boundsOf(c, false), span)
	consistent = len(x) > 0 && len(y) > 0
	if _, found := network.Blame(c); found == consistent {
		t.Errorf("Blame(%v): %v", c, found)
	}
	for p := range c.Points {
		got, err := network.Box(c, p)
		if (err == api.OK) != (consistent && isTied(c, p)) {
			t.Errorf("Box(%v, %d): %v", c, p, err)
		}
		if err == api.OK {
			checkBetween(t, c, x, -1, p, got.LowX, got.HighX)
			checkBetween(t, c, y, -1, p, got.LowY, got.HighY)
		}
		for q := range c.Points {
			got, err := network.Apart(c, p, q)
			if err == api.OK {
				checkBetween(t, c, x, p, q, got.LowX, got.HighX)
				checkBetween(t, c, y, p, q, got.LowY, got.HighY)
			}
		}
	}
	return consistent
}

func TestAllSmallNetworks(t *testing.T) {
	var all []any
	for x := -1; x <= 1; x++ {
		for tol := range 2 {
			for p := range 2 {
				y := (x+2*tol+p+4)%3 - 1
				all = append(all, fix(p, x, y, tol), sight(p, 1-p, x, y, tol))
			}
		}
	}
	contradictions, others := 0, 0
	lists(3, -1, len(all)-1, func(l []int) {
		c := api.Control{Points: 2}
		for _, i := range l {
			if i >= 0 {
				c = with(c, all[i])
			}
		}
		if checkWhole(t, c, 4) {
			others++
		} else {
			contradictions++
		}
		checkAll(t, c)
	})
	if contradictions < 2000 || others < 2000 {
		t.Errorf("there were %d with a contradiction, and %d others", contradictions, others)
	}
}

func TestAllValuesOfThreePoints(t *testing.T) {
	r := rand.New(rand.NewPCG(10, 3))
	contradictions, others := 0, 0
	for range 1500 {
		c := some(r, 3, 2, 4, 1, 1)
		if checkWhole(t, c, 6) {
			others++
		} else {
			contradictions++
		}
	}
	if contradictions < 300 || others < 300 {
		t.Errorf("there were %d with a contradiction, and %d others", contradictions, others)
	}
}

func TestManyNetworks(t *testing.T) {
	r := rand.New(rand.NewPCG(10, 4))
	contradictions, others, untied, longest := 0, 0, 0, 0
	for i := range 3000 {
		far, tol := []int{3, 100, 9000}[i%3], []int{2, 40, 1000}[i/3%3]
		c := some(r, 8, 8, 20, far, tol)
		if i%4 > 0 {
			c, _ = kept(r, 8, 7, 19, far, tol)
		}
		if i%4 > 1 && len(c.Fixes) < 8 {
			c = with(c, fix(r.IntN(c.Points), r.IntN(far)-far/2, r.IntN(far)-far/2, r.IntN(tol+1)))
		}
		if checkAll(t, c) {
			others++
		} else {
			contradictions++
			l, _ := network.Blame(c)
			longest = max(longest, len(l))
		}
		if !allTied(c) {
			untied++
		}
	}
	if contradictions < 500 || others < 500 || untied < 250 || longest < 5 {
		t.Errorf("there were %d with a contradiction, of up to %d observations, %d others, and %d were not tied", contradictions, longest, others, untied)
	}
}

// P10.1: memory

// copied returns a network with the same elements, and with further ones behind each list.
func copied(c api.Control) api.Control {
	c.Fixes = append(slices.Clone(c.Fixes), fix(77, 77, 77, 77))[:len(c.Fixes)]
	c.Sights = append(slices.Clone(c.Sights), sight(77, 77, 77, 77, 77))[:len(c.Sights)]
	return c
}

// same reports whether c still is what copied made of old.
func same(c, old api.Control) bool {
	return slices.Equal(c.Fixes, old.Fixes) && slices.Equal(c.Sights, old.Sights) && c.Fixes[:len(old.Fixes)+1][len(old.Fixes)].Point == 77 && c.Sights[:len(old.Sights)+1][len(old.Sights)].From == 77
}

func TestArgumentsStayAsTheyAre(t *testing.T) {
	r := rand.New(rand.NewPCG(10, 5))
	all := append(notValid(), api.Control{}, example(), inconsistent(), dense(func() int { return 5 }, 0))
	for range 300 {
		all = append(all, some(r, 8, 8, 20, 50, 10))
	}
	for _, old := range all {
		c := copied(old)
		l := append(make([]api.Place, max(0, min(old.Points, 9))), place(77, 77))
		l = l[:len(l)-1]
		network.Valid(c)
		network.Allowed(c, l)
		for p := range 3 {
			network.Box(c, p)
			network.Apart(c, p, 1)
		}
		network.Blame(c)
		network.Least(c)
		if !same(c, old) || slices.ContainsFunc(l, func(p api.Place) bool { return p != place(0, 0) }) || l[:len(l)+1][len(l)] != place(77, 77) {
			t.Fatalf("%v became %v with %v", old, c, l)
		}
	}
}

// spoil overwrites l and its spare capacity.
func spoil(l []int) {
	l = l[:cap(l)]
	for i := range l {
		l[i] = 77
	}
}

func TestResultsAreNewMemory(t *testing.T) {
	c := example()
	a, _ := network.Least(c)
	b, _ := network.Least(c)
	spoil(a.X)
	if slices.Contains(a.Y[:cap(a.Y)], 77) || slices.Contains(b.X[:cap(b.X)], 77) || slices.Contains(b.Y[:cap(b.Y)], 77) {
		t.Errorf("X is shared: %v, %v", a, b)
	}
	spoil(b.Y)
	if slices.Contains(b.X[:cap(b.X)], 77) || slices.Contains(a.Y[:cap(a.Y)], 77) {
		t.Errorf("Y is shared: %v, %v", a, b)
	}
	checkLeast(t, c, []int{0, 304, 308}, []int{0, -2, 146}, 3)
	c = inconsistent()
	l, _ := network.Blame(c)
	spoil(l)
	checkBlame(t, c, 1, 2, 3)
	checkAll(t, c)
}

func TestNilAndEmptyAreTheSame(t *testing.T) {
	for _, c := range []api.Control{{}, {Fixes: []api.Fix{}, Sights: []api.Sight{}}} {
		for _, l := range [][]api.Place{nil, {}} {
			checkAllowed(t, c, l, true)
		}
		checkLeast(t, c, nil, nil, 1)
		checkNoBlame(t, c)
		c.Points = 2
		checkAll(t, c)
		checkAllowed(t, c, []api.Place{{}, place(1, 1)}, true)
	}
}

func FuzzNetwork(f *testing.F) {
	f.Add([]byte{3, 128, 0, 128, 128, 2, 0, 1, 228, 128, 3, 1, 2, 128, 178, 1, 0, 2, 232, 176, 2})
	f.Add([]byte{3, 128, 0, 128, 128, 2, 0, 1, 228, 128, 3, 1, 2, 128, 178, 1, 0, 2, 239, 176, 2})
	f.Add([]byte{8, 130, 7, 1, 1, 0, 133, 2, 255, 0, 9, 0, 7, 3, 3, 3})
	f.Fuzz(func(t *testing.T, s []byte) {
		c := api.Control{Points: 1}
		if len(s) > 0 {
			c.Points = 1 + int(s[0])%8
			s = s[1:]
		}
		for ; len(s) >= 5; s = s[5:] {
			from, to, x, y, tol := int(s[0]), int(s[1])%c.Points, int(s[2])-128, int(s[3])-128, int(s[4])%32
			if from >= 128 && len(c.Fixes) < 8 {
				c = with(c, fix(to, x, y, tol))
			} else if from %= c.Points; from != to && len(c.Sights) < 20 {
				c = with(c, sight(from, to, x, y, tol))
			}
		}
		consistent := checkAll(t, c)
		if consistent && allTied(c) {
			var l []api.Place
			for p := range c.Points {
				b, _ := network.Box(c, p)
				l = append(l, place(b.HighX, b.LowY))
			}
			checkAllowed(t, c, l, true)
		}
	})
}

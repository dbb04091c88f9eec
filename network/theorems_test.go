package network_test

import (
	"math/big"
	"math/rand/v2"
	"slices"
	"testing"

	"putlog/api"
	"putlog/network"
)

// The functions in this part make networks.

// spans are greatest coordinates, with the tolerances that go with them.
var spans = [][2]int{{8, 2}, {200, 20}, {1000, 200}}

// networks calls check for many networks with room for one more fix and one more sight, and places that they allow.
func networks(seed uint64, check func(r *rand.Rand, c api.Control, at []api.Place, tol int)) {
	r := rand.New(rand.NewPCG(100, seed))
	for i := range 540 {
		far, tol := spans[i%3][0], spans[i%3][1]
		c, at := kept(r, []int{3, 8}[i/3%2], 7, []int{3, 8, 19}[i/6%3], far, tol)
		check(r, c, at, tol)
	}
}

// fixed returns c with a fix of the point p at just this place.
func fixed(c api.Control, p int, at api.Place) api.Control {
	return with(c, fix(p, at.X, at.Y, 0))
}

// isConsistent reports whether no observations of c, which is valid, contradict each other.
func isConsistent(c api.Control) bool {
	_, x := greatest(boundsOf(c, true))
	_, y := greatest(boundsOf(c, false))
	return x && y
}

// P10.2

func TestAllGreatestAndAllLeastPlacesAreAllowed(t *testing.T) {
	tied := 0
	networks(1, func(r *rand.Rand, c api.Control, at []api.Place, tol int) {
		for p := range c.Points {
			if !isTied(c, p) && len(c.Fixes) < 7 {
				c = with(c, fix(p, at[p].X, at[p].Y, tol))
			}
		}
		if !allTied(c) {
			return
		}
		tied++
		for corner := range 4 {
			var l []api.Place
			for p := range c.Points {
				b, err := network.Box(c, p)
				if err != api.OK {
					t.Fatalf("Box(%v, %d): %v", c, p, err)
				}
				l = append(l, place([]int{b.LowX, b.HighX}[corner%2], []int{b.LowY, b.HighY}[corner/2]))
			}
			checkAllowed(t, c, l, true)
			if !keeps(c, l) {
				t.Errorf("%v are the corners %d of the boxes of %v", l, corner, c)
			}
		}
	})
	if tied < 360 {
		t.Errorf("%d were tied", tied)
	}
}

// checkFixed checks that a fix of p at this place leaves c consistent, or does not.
func checkFixed(t *testing.T, c api.Control, p int, at api.Place, inside bool) {
	t.Helper()
	c = fixed(c, p, at)
	if got, found := network.Blame(c); found == inside || isConsistent(c) != inside {
		t.Errorf("Blame(%v) = %v, %v", c, got, found)
	}
	if inside {
		checkBox(t, c, p, box(at.X, at.X, at.Y, at.Y))
	} else {
		checkNoBox(t, c, p)
	}
}

func TestEveryPlaceOfABoxIsPossible(t *testing.T) {
	boxes := 0
	networks(2, func(r *rand.Rand, c api.Control, at []api.Place, tol int) {
		for p := range c.Points {
			b, err := network.Box(c, p)
			if (err == api.OK) != isTied(c, p) {
				t.Fatalf("Box(%v, %d): %v", c, p, err)
			}
			if err != api.OK {
				continue
			}
			boxes++
			x, y := b.LowX+r.IntN(b.HighX-b.LowX+1), b.LowY+r.IntN(b.HighY-b.LowY+1)
			for _, inside := range []api.Place{place(x, y), place(b.LowX, b.LowY), place(b.HighX, b.LowY), place(b.LowX, y), place(x, b.HighY)} {
				checkFixed(t, c, p, inside, true)
			}
			for _, outside := range []api.Place{place(b.LowX-1, y), place(b.HighX+1, y), place(x, b.LowY-1), place(x, b.HighY+1), place(b.HighX+1+r.IntN(9), b.LowY-1-r.IntN(9))} {
				checkFixed(t, c, p, outside, false)
			}
		}
	})
	if boxes < 900 {
		t.Errorf("there were %d boxes", boxes)
	}
}

func TestEveryPlaceAroundSmallBoxes(t *testing.T) {
	r := rand.New(rand.NewPCG(100, 3))
	for range 200 {
		c, _ := kept(r, 4, 3, 6, 5, 1)
		for p := range c.Points {
			b, err := network.Box(c, p)
			if err != api.OK {
				continue
			}
			for x := b.LowX - 2; x <= b.HighX+2; x++ {
				for y := b.LowY - 2; y <= b.HighY+2; y++ {
					checkFixed(t, c, p, place(x, y), x >= b.LowX && x <= b.HighX && y >= b.LowY && y <= b.HighY)
				}
			}
		}
	}
}

// P10.3

func lies(b api.Box, x, y int) bool {
	return b.LowX <= x && x <= b.HighX && b.LowY <= y && y <= b.HighY
}

// contains reports whether the box b has all of a.
func contains(b, a api.Box) bool { return lies(b, a.LowX, a.LowY) && lies(b, a.HighX, a.HighY) }

// checkIn checks that these places, which c allows, lie in what Box and Apart return.
func checkIn(t *testing.T, c api.Control, at []api.Place) {
	t.Helper()
	checkAllowed(t, c, at, true)
	checkNoBlame(t, c)
	group := connected(c)
	for p := range c.Points {
		if b, err := network.Box(c, p); (err == api.OK) != isTied(c, p) || err == api.OK && !lies(b, at[p].X, at[p].Y) {
			t.Errorf("Box(%v, %d) = %v, %v, but %v are allowed", c, p, b, err, at)
		}
		for q := range c.Points {
			if b, err := network.Apart(c, p, q); (err == api.OK) != (group[p] == group[q]) || err == api.OK && !lies(b, at[q].X-at[p].X, at[q].Y-at[p].Y) {
				t.Errorf("Apart(%v, %d, %d) = %v, %v, but %v are allowed", c, p, q, b, err, at)
			}
		}
	}
}

func TestAllowedPlacesLieInTheirBoxes(t *testing.T) {
	networks(4, func(r *rand.Rand, c api.Control, at []api.Place, tol int) {
		checkIn(t, c, at)
		// The same near by, where that is allowed.
		for range 20 {
			l := slices.Clone(at)
			for p := range l {
				l[p].X += r.IntN(3) - 1
				l[p].Y += r.IntN(3) - 1
			}
			if keeps(c, l) {
				checkIn(t, c, l)
			}
		}
	})
}

// checkNarrower checks that no box of now is wider than that of c.
func checkNarrower(t *testing.T, c, now api.Control) {
	t.Helper()
	for p := range c.Points {
		old, before := network.Box(c, p)
		b, err := network.Box(now, p)
		if before == api.OK && (err != api.OK || !contains(old, b)) {
			t.Errorf("Box of %d: %v in %v, but %v, %v in %v", p, old, c, b, err, now)
		}
		for q := range c.Points {
			old, before := network.Apart(c, p, q)
			b, err := network.Apart(now, p, q)
			if before == api.OK && (err != api.OK || !contains(old, b)) {
				t.Errorf("Apart of %d and %d: %v in %v, but %v, %v in %v", p, q, old, c, b, err, now)
			}
		}
	}
}

func TestFurtherObservationsWidenNoBox(t *testing.T) {
	narrower := 0
	networks(5, func(r *rand.Rand, c api.Control, at []api.Place, tol int) {
		further := []any{fixOf(r, at, tol)}
		if c.Points > 1 {
			further = append(further, sightOf(r, at, tol))
		}
		for _, o := range further {
			now := with(c, o)
			checkIn(t, now, at)
			checkNarrower(t, c, now)
			for p := range c.Points {
				old, before := network.Box(c, p)
				if b, _ := network.Box(now, p); before == api.OK && b != old {
					narrower++
				}
			}
		}
	})
	if narrower < 180 {
		t.Errorf("%d were narrower", narrower)
	}
}

// P10.4

// fewer calls check for all sets of so many numbers below n.
func fewer(n, size int, check func(l []int)) {
	for set := range 1 << n {
		var l []int
		for i := range n {
			if set>>i&1 == 1 {
				l = append(l, i)
			}
		}
		if len(l) == size {
			check(l)
		}
	}
}

// checkLeastSet checks what Blame names, and reports whether it names anything.
func checkLeastSet(t *testing.T, c api.Control) (int, bool) {
	t.Helper()
	l, found := network.Blame(c)
	if found == isConsistent(c) || !found && l != nil {
		t.Fatalf("Blame(%v) = %v, %v", c, l, found)
	}
	if !found {
		return 0, false
	}
	for i, n := range l {
		if n < 0 || n >= count(c) || i > 0 && l[i-1] >= n {
			t.Fatalf("Blame(%v) = %v", c, l)
		}
	}
	if isConsistent(named(c, l)) {
		t.Errorf("Blame(%v) = %v, which are consistent", c, l)
	}
	if _, still := network.Blame(named(c, l)); !still {
		t.Errorf("Blame(%v) = %v, but not of these alone", c, l)
	}
	for i := range l {
		rest := slices.Concat(l[:i], l[i+1:])
		checkNoBlame(t, named(c, rest))
		if !isConsistent(named(c, rest)) {
			t.Errorf("Blame(%v) = %v, but %v are enough", c, l, rest)
		}
	}
	return len(l), true
}

func TestBlamedSetsAreLeast(t *testing.T) {
	r := rand.New(rand.NewPCG(100, 6))
	found, longest := 0, 0
	for i := range 3000 {
		far, tol := spans[i%3][0], spans[i%3][1]
		c, _ := kept(r, 8, []int{2, 7}[i%2], 19, far, tol)
		c = with(c, fix(r.IntN(c.Points), r.IntN(far)-far/2, r.IntN(far)-far/2, r.IntN(tol+1)))
		if n, is := checkLeastSet(t, c); is {
			found++
			longest = max(longest, n)
		}
	}
	if found < 800 || longest < 5 {
		t.Errorf("%d were found, of up to %d observations", found, longest)
	}
}

func TestNoFewerObservationsAreInconsistent(t *testing.T) {
	r := rand.New(rand.NewPCG(100, 7))
	sizes := map[int]int{}
	for i := range 1500 {
		c, _ := kept(r, 5, 2, 7, 12, 1)
		c = with(c, fix(r.IntN(c.Points), r.IntN(12)-6, r.IntN(12)-6, r.IntN(2)))
		if i%3 == 0 {
			c = some(r, 4, 3, 6, 4, 3)
		}
		size, found := checkLeastSet(t, c)
		if !found {
			continue
		}
		sizes[size]++
		for less := range size {
			fewer(count(c), less, func(l []int) {
				if !isConsistent(named(c, l)) {
					t.Fatalf("Blame(%v) names %d, but %v are enough", c, size, l)
				}
			})
		}
	}
	if sizes[2] < 100 || sizes[3] < 50 || sizes[4] < 20 || sizes[5] < 5 {
		t.Errorf("so many of each size were found: %v", sizes)
	}
}

// P10.5

// whole returns n, and times the product of a and b.
func whole(n int) *big.Int { return big.NewInt(int64(n)) }

func times(a, b *big.Int) *big.Int { return new(big.Int).Mul(a, b) }

// residuals returns those of all observations in a coordinate, X or else Y, at the positions x over den, as numerators.
func residuals(c api.Control, ofX bool, x []*big.Int, den int) []*big.Int {
	at := append(slices.Clone(x), whole(0))
	var l []*big.Int
	for i, b := range boundsOf(c, ofX).Bounds {
		if i%2 == 0 {
			d := new(big.Int).Sub(at[b.To], at[b.From])
			l = append(l, d.Sub(d, times(whole(b.Most-tolerance(c, i/2)), whole(den))))
		}
	}
	return l
}

func squares(l []*big.Int) *big.Int {
	sum := whole(0)
	for _, n := range l {
		sum.Add(sum, times(n, n))
	}
	return sum
}

// numerators returns those of x with the factor times.
func numerators(x []int, factor int) []*big.Int {
	var l []*big.Int
	for _, n := range x {
		l = append(l, times(whole(n), whole(factor)))
	}
	return l
}

// checkBalance checks that the residuals balance at each point.
func checkBalance(t *testing.T, c api.Control, ofX bool, x []int, den int) {
	t.Helper()
	sums := make([]*big.Int, c.Points+1)
	for p := range sums {
		sums[p] = whole(0)
	}
	for i, residual := range residuals(c, ofX, numerators(x, 1), den) {
		b := boundsOf(c, ofX).Bounds[2*i]
		sums[b.To].Add(sums[b.To], residual)
		sums[b.From].Sub(sums[b.From], residual)
	}
	for p := range c.Points {
		if sums[p].Sign() != 0 {
			t.Errorf("%v over %d leave %v at the point %d of %v", x, den, sums[p], p, c)
		}
	}
}

// tiedNetworks calls check for many networks all of whose points are tied, among them inconsistent ones.
func tiedNetworks(seed uint64, check func(r *rand.Rand, c api.Control, at []api.Place, tol int)) {
	r := rand.New(rand.NewPCG(100, seed))
	for i := range 600 {
		far, tol := spans[i%3][0], spans[i%3][1]
		c, at := kept(r, 8, 2, []int{2, 12, 18}[i%3], far, tol)
		for p := range c.Points {
			if p > 0 && r.IntN(3) > 0 && len(c.Sights) < 19 {
				c = with(c, sight(r.IntN(p), p, r.IntN(far)-far/2, r.IntN(far)-far/2, tol))
			}
			if !isTied(c, p) && len(c.Fixes) < 7 {
				c = with(c, fixOf(r, at[p:p+1], tol))
				c.Fixes[len(c.Fixes)-1].Point = p
			}
		}
		if allTied(c) {
			check(r, c, at, tol)
		}
	}
}

func TestResidualsBalance(t *testing.T) {
	all, inconsistent := 0, 0
	tiedNetworks(8, func(r *rand.Rand, c api.Control, at []api.Place, tol int) {
		got, err := network.Least(c)
		if err != api.OK || len(got.X) != c.Points || len(got.Y) != c.Points || got.Den < 1 {
			t.Fatalf("Least(%v) = %v, %v", c, got, err)
		}
		checkBalance(t, c, true, got.X, got.Den)
		checkBalance(t, c, false, got.Y, got.Den)
		all++
		if !isConsistent(c) {
			inconsistent++
		}
	})
	if all < 450 || inconsistent < 100 || all-inconsistent < 100 {
		t.Errorf("there were %d, %d of them inconsistent", all, inconsistent)
	}
}

func TestNoPositionsHaveLesserSquares(t *testing.T) {
	tiedNetworks(9, func(r *rand.Rand, c api.Control, at []api.Place, tol int) {
		got, _ := network.Least(c)
		const parts = 1000
		for _, ofX := range []bool{true, false} {
			x := got.Y
			if ofX {
				x = got.X
			}
			least := squares(residuals(c, ofX, numerators(x, parts), got.Den*parts))
			for n := range 40 {
				moved := numerators(x, parts)
				by := whole(1 - 2*(n%2))
				if n >= 2*c.Points {
					by = whole(r.IntN(2*parts*got.Den) - parts*got.Den)
				}
				p := n / 2 % c.Points
				moved[p].Add(moved[p], by)
				if n >= 4*c.Points {
					moved[0].Sub(moved[0], by)
				}
				other := squares(residuals(c, ofX, moved, got.Den*parts))
				if slices.EqualFunc(moved, numerators(x, parts), func(a, b *big.Int) bool { return a.Cmp(b) == 0 }) {
					continue
				}
				if other.Cmp(least) <= 0 {
					t.Fatalf("Least(%v) = %v, but %v over %d are as good", c, got, moved, got.Den*parts)
				}
			}
		}
	})
}

func TestTolerancesPlayNoPartInSquares(t *testing.T) {
	tiedNetworks(10, func(r *rand.Rand, c api.Control, at []api.Place, tol int) {
		got, _ := network.Least(c)
		other := with(c)
		for i := range other.Fixes {
			other.Fixes[i].Tol = r.IntN(1001)
		}
		for i := range other.Sights {
			other.Sights[i].Tol = r.IntN(1001)
		}
		checkLeast(t, other, got.X, got.Y, got.Den)
	})
}

// P10.6

// moved returns c with all fixes moved.
func moved(c api.Control, dx, dy int) api.Control {
	c = with(c)
	for i := range c.Fixes {
		c.Fixes[i].X += dx
		c.Fixes[i].Y += dy
	}
	return c
}

// checkMoved compares what is said of c with what is said of it when all fixes are moved.
func checkMoved(t *testing.T, c api.Control, dx, dy int) {
	t.Helper()
	now := moved(c, dx, dy)
	for p := range c.Points {
		b, before := network.Box(c, p)
		want := b
		if before == api.OK {
			want = box(b.LowX+dx, b.HighX+dx, b.LowY+dy, b.HighY+dy)
		}
		if got, err := network.Box(now, p); err != before || got != want {
			t.Errorf("Box(%v, %d) = %v, %v, but %v, %v before (%d, %d) was added", now, p, got, err, b, before, dx, dy)
		}
		for q := range c.Points {
			b, before := network.Apart(c, p, q)
			if got, err := network.Apart(now, p, q); err != before || got != b {
				t.Errorf("Apart(%v, %d, %d) = %v, %v, but %v, %v before (%d, %d) was added", now, p, q, got, err, b, before, dx, dy)
			}
		}
	}
	l, before := network.Blame(c)
	if got, found := network.Blame(now); found != before || !slices.Equal(got, l) {
		t.Errorf("Blame(%v) = %v, but %v before (%d, %d) was added", now, got, l, dx, dy)
	}
	least, err := network.Least(c)
	if err != api.OK {
		checkNoLeast(t, now)
		return
	}
	for p := range c.Points {
		least.X[p] += dx * least.Den
		least.Y[p] += dy * least.Den
	}
	checkLeast(t, now, least.X, least.Y, least.Den)
}

func TestMovedFixes(t *testing.T) {
	contradictions := 0
	check := func(r *rand.Rand, c api.Control, at []api.Place, tol int) {
		if r.IntN(2) == 0 {
			c = with(c, fix(r.IntN(c.Points), r.IntN(50)-25, r.IntN(50)-25, r.IntN(tol+1)))
		}
		if !isConsistent(c) {
			contradictions++
		}
		checkMoved(t, c, r.IntN(101)-50, r.IntN(101)-50)
		checkMoved(t, c, 8000*(1-2*r.IntN(2)), 8000*(r.IntN(3)-1))
	}
	networks(11, check)
	tiedNetworks(12, check)
	if contradictions < 200 {
		t.Errorf("%d were contradictions", contradictions)
	}
	checkMoved(t, example(), 10000, -10000)
	checkMoved(t, inconsistent(), -10000, 10000)
}

func TestTurnedSights(t *testing.T) {
	contradictions := 0
	check := func(r *rand.Rand, c api.Control, at []api.Place, tol int) {
		if r.IntN(2) == 0 {
			c = with(c, fix(r.IntN(c.Points), r.IntN(50)-25, r.IntN(50)-25, r.IntN(tol+1)))
		}
		if len(c.Sights) == 0 {
			return
		}
		now := with(c)
		for range 1 + r.IntN(len(c.Sights)) {
			i := r.IntN(len(c.Sights))
			s := now.Sights[i]
			now.Sights[i] = sight(s.To, s.From, -s.DX, -s.DY, s.Tol)
		}
		for p := range c.Points {
			b, before := network.Box(c, p)
			if got, err := network.Box(now, p); err != before || got != b {
				t.Errorf("Box(%v, %d) = %v, %v, but %v, %v in %v", now, p, got, err, b, before, c)
			}
			for q := range c.Points {
				b, before := network.Apart(c, p, q)
				if got, err := network.Apart(now, p, q); err != before || got != b {
					t.Errorf("Apart(%v, %d, %d) = %v, %v, but %v, %v in %v", now, p, q, got, err, b, before, c)
				}
			}
		}
		l, before := network.Blame(c)
		// There may be several shortest cycles, and now another one may be the first.
		if got, found := network.Blame(now); found != before || len(got) != len(l) {
			t.Errorf("Blame(%v) = %v, but %v in %v", now, got, l, c)
		}
		if before {
			contradictions++
		}
		if least, err := network.Least(c); err == api.OK {
			checkLeast(t, now, least.X, least.Y, least.Den)
		} else {
			checkNoLeast(t, now)
		}
	}
	networks(13, check)
	tiedNetworks(14, check)
	if contradictions < 200 {
		t.Errorf("%d were contradictions", contradictions)
	}
}

// P10.7

// plus returns the sum of two boxes, minus the opposite of one.
func plus(a, b api.Box) api.Box {
	return box(a.LowX+b.LowX, a.HighX+b.HighX, a.LowY+b.LowY, a.HighY+b.HighY)
}

func minus(a api.Box) api.Box { return box(-a.HighX, -a.LowX, -a.HighY, -a.LowY) }

func TestDifferences(t *testing.T) {
	threes, boxes := 0, 0
	networks(15, func(r *rand.Rand, c api.Control, at []api.Place, tol int) {
		for p := range c.Points {
			for q := range c.Points {
				there, err := network.Apart(c, p, q)
				back, failed := network.Apart(c, q, p)
				if err != failed || back != minus(there) {
					t.Errorf("Apart of %d and %d in %v: %v, %v and %v, %v", p, q, c, there, err, back, failed)
				}
				if err != api.OK {
					continue
				}
				for third := range c.Points {
					on, err := network.Apart(c, q, third)
					whole, failed := network.Apart(c, p, third)
					if err != failed || err == api.OK && !contains(plus(there, on), whole) {
						t.Errorf("Apart of %d, %d and %d in %v: %v, %v and %v", p, q, third, c, there, on, whole)
					}
					if err == api.OK && whole != plus(there, on) {
						threes++
					}
				}
				a, err := network.Box(c, p)
				b, failed := network.Box(c, q)
				if err != failed || err == api.OK && !contains(plus(a, there), b) {
					t.Errorf("Box of %d and %d in %v: %v and %v, but %v apart", p, q, c, a, b, there)
				}
				if err == api.OK && b != plus(a, there) {
					boxes++
				}
			}
		}
	})
	if threes < 1000 || boxes < 1000 {
		t.Errorf("%d differences were less than the sums, and %d boxes", threes, boxes)
	}
}

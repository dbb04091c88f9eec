package plane_test

import (
	"math/big"
	"math/rand/v2"
	"slices"
	"testing"

	"putlog/api"
	"putlog/plane"
)

// point is a place with rational coordinates.
type point struct{ x, y *big.Rat }

// rationalTurn returns the turn of a, b and p.
func rationalTurn(a, b api.Place, p point) *big.Rat {
	rational := func(n int) *big.Rat { return big.NewRat(int64(n), 1) }
	up := new(big.Rat).Mul(rational(b.X-a.X), new(big.Rat).Sub(p.y, rational(a.Y)))
	return up.Sub(up, new(big.Rat).Mul(rational(b.Y-a.Y), new(big.Rat).Sub(p.x, rational(a.X))))
}

// between returns the point of the segment from p to q where the turn is 0 that is m at p and n at q.
func between(p, q point, m, n *big.Rat) point {
	part := new(big.Rat).Quo(m, new(big.Rat).Sub(m, n))
	along := func(from, to *big.Rat) *big.Rat {
		d := new(big.Rat).Sub(to, from)
		return d.Add(d.Mul(d, part), from)
	}
	return point{along(p.x, q.x), along(p.y, q.y)}
}

// common returns the corners of what two valid polygons have in common: of a, what is not to the right of any edge of b.
func common(a, b []api.Place) []point {
	var l []point
	for _, p := range a {
		l = append(l, point{big.NewRat(int64(p.X), 1), big.NewRat(int64(p.Y), 1)})
	}
	for i := range b {
		var kept []point
		for k, p := range l {
			q := l[(k+1)%len(l)]
			m, n := rationalTurn(b[i], b[(i+1)%len(b)], p), rationalTurn(b[i], b[(i+1)%len(b)], q)
			if m.Sign() >= 0 {
				kept = append(kept, p)
			}
			if m.Sign()*n.Sign() < 0 {
				kept = append(kept, between(p, q, m, n))
			}
		}
		l = kept
	}
	return l
}

// overlapping reports whether there is a place in the interior of both: the mean of the corners of what they have in common is one, if there is any.
func overlapping(a, b []api.Place) bool {
	l := common(a, b)
	if len(l) == 0 {
		return false
	}
	mean := point{new(big.Rat), new(big.Rat)}
	for _, p := range l {
		mean.x.Add(mean.x, p.x)
		mean.y.Add(mean.y, p.y)
	}
	part := big.NewRat(1, int64(len(l)))
	mean.x.Mul(mean.x, part)
	mean.y.Mul(mean.y, part)
	for _, polygon := range [][]api.Place{a, b} {
		for i, p := range polygon {
			if rationalTurn(p, polygon[(i+1)%len(polygon)], mean).Sign() <= 0 {
				return false
			}
		}
	}
	return true
}

// shared returns the places with whole coordinates on the boundaries of both.
func shared(a, b []api.Place) []api.Place {
	var l []api.Place
	for _, p := range places() {
		if inside(a, p) == 0 && inside(b, p) == 0 {
			l = append(l, p)
		}
	}
	return l
}

// polygons calls check for all small polygons, and for polygons of all sizes.
func polygons(seed uint64, many int, check func(r *rand.Rand, l []api.Place)) {
	r := rand.New(rand.NewPCG(7, seed))
	for _, l := range append(all(3), triangle(), square(), whole(), octagon()) {
		check(r, l)
	}
	for range many {
		check(r, some(r))
	}
}

// pairs calls check for all pairs of small polygons, and for pairs of all sizes.
func pairs(seed uint64, many int, check func(r *rand.Rand, a, b []api.Place)) {
	r := rand.New(rand.NewPCG(7, seed))
	small := all(3)
	for i, a := range small {
		for _, b := range small[i:] {
			check(r, a, b)
		}
	}
	for i := range many {
		if i%4 == 0 {
			check(r, some(r), some(r))
		} else {
			a, b := pair(r)
			check(r, a, b)
		}
	}
}

// P7.2

func TestPick(t *testing.T) {
	polygons(20, 2000, func(r *rand.Rand, l []api.Place) {
		interior, boundary := 0, 0
		for _, p := range places() {
			switch plane.Inside(l, p) {
			case 1:
				interior++
			case 0:
				boundary++
			}
		}
		if a, b := plane.Lattice(l); a != interior || b != boundary || plane.Area2(l) != 2*a+b-2 {
			t.Fatalf("of %v, Area2 is %d, and Lattice %d, %d; %d and %d places were counted", l, plane.Area2(l), a, b, interior, boundary)
		}
	})
}

// P7.3

func TestPartsAddUp(t *testing.T) {
	polygons(30, 5000, func(r *rand.Rand, l []api.Place) {
		for i := range l {
			for k := range l {
				first, second, err := plane.Cut(l, i, k)
				if err != api.OK {
					continue
				}
				x, y := plane.Moments(l)
				x1, y1 := plane.Moments(first)
				x2, y2 := plane.Moments(second)
				if !plane.Valid(first) || !plane.Valid(second) || plane.Area2(first)+plane.Area2(second) != plane.Area2(l) || x1+x2 != x || y1+y2 != y {
					t.Fatalf("Cut(%v, %d, %d) = %v, %v", l, i, k, first, second)
				}
				checkOverlap(t, first, second, false)
				checkSeam(t, first, second, l[k], l[i])
				checkSeam(t, second, first, l[i], l[k])
			}
		}
	})
}

func TestPlacesOfParts(t *testing.T) {
	polygons(31, 200, func(r *rand.Rand, l []api.Place) {
		i := r.IntN(len(l))
		k := (i + 2 + r.IntN(len(l)-2)) % len(l)
		first, second, err := plane.Cut(l, i, k)
		if err != api.OK {
			return
		}
		check := func(p api.Place, of func(l []api.Place) int, diagonal bool) {
			t.Helper()
			a, b, c := of(l) == 1, of(first) == 1, of(second) == 1
			if a != (b || c || diagonal) || b && c || b && diagonal || c && diagonal {
				t.Fatalf("Cut(%v, %d, %d) = %v, %v; %v is in the interior of the whole: %t, of the parts: %t, %t, on the diagonal: %t", l, i, k, first, second, p, a, b, c, diagonal)
			}
		}
		for _, p := range places() {
			check(p, func(l []api.Place) int { return plane.Inside(l, p) }, on(l[i], l[k], p) && p != l[i] && p != l[k])
			center := turn(at(2*l[i].X, 2*l[i].Y), at(2*l[k].X, 2*l[k].Y), at(2*p.X+1, 2*p.Y+1)) == 0 && plane.Cell(l, p.X, p.Y) >= 0
			check(p, func(l []api.Place) int { return plane.Cell(l, p.X, p.Y) }, center)
		}
	})
}

// P7.4

func TestOverlapOfManyPairs(t *testing.T) {
	overlaps, apart := 0, 0
	pairs(40, 6000, func(r *rand.Rand, a, b []api.Place) {
		want := overlapping(a, b)
		if want {
			overlaps++
		} else {
			apart++
		}
		checkOverlap(t, a, b, want)
		checkOverlap(t, b, a, want)
		if _, _, found := plane.Side(a, b); found == want {
			t.Fatalf("%v and %v overlap: %t, but are separated: %t", a, b, want, found)
		}
		if _, _, found := plane.Side(b, a); found == want {
			t.Fatalf("%v and %v overlap: %t, but are separated: %t", b, a, want, found)
		}
	})
	if overlaps < 2000 || apart < 2000 {
		t.Errorf("%d pairs overlap, %d do not", overlaps, apart)
	}
}

func TestPlacesInBothMakeAnOverlap(t *testing.T) {
	number := 0
	pairs(41, 1000, func(r *rand.Rand, a, b []api.Place) {
		for range 30 {
			p := at(a[0].X+r.IntN(9)-4, a[0].Y+r.IntN(9)-4)
			if min(plane.Inside(a, p), plane.Inside(b, p)) == 1 || min(plane.Cell(a, p.X, p.Y), plane.Cell(b, p.X, p.Y)) == 1 {
				checkOverlap(t, a, b, true)
				checkOverlap(t, b, a, true)
				number++
			}
		}
	})
	if number < 1000 {
		t.Errorf("%d places are in both", number)
	}
}

// P7.5

func TestSeamOfManyPairs(t *testing.T) {
	seams, touches, apart := 0, 0, 0
	pairs(50, 2500, func(r *rand.Rand, a, b []api.Place) {
		l := shared(a, b)
		switch {
		case overlapping(a, b):
			l = nil
		case len(l) == 0:
			apart++
		case len(l) == 1:
			touches++
		}
		if len(l) < 2 {
			checkNoSeam(t, a, b)
			checkNoSeam(t, b, a)
			return
		}
		seams++
		// All places that they share are on the seam, so its ends are the first and the last one in any direction that is not across.
		p, q := slices.MinFunc(l, compare), slices.MaxFunc(l, compare)
		for _, c := range a {
			if turn(p, q, c) < 0 {
				p, q = q, p
			}
		}
		checkSeam(t, a, b, p, q)
		checkSeam(t, b, a, q, p)
	})
	if seams < 500 || touches < 500 || apart < 500 {
		t.Errorf("%d seams, %d places, %d pairs apart", seams, touches, apart)
	}
}

func TestPlacesOfSeams(t *testing.T) {
	seams := 0
	pairs(51, 3000, func(r *rand.Rand, a, b []api.Place) {
		s, found := plane.Seam(a, b)
		back, both := plane.Seam(b, a)
		if found != both || back.P != s.Q || back.Q != s.P || found == (s.P == s.Q) {
			t.Fatalf("Seam(%v, %v) = %v, %t; in the other order: %v, %t", a, b, s, found, back, both)
		}
		if !found {
			return
		}
		seams++
		if !slices.Contains(slices.Concat(a, b), s.P) || !slices.Contains(slices.Concat(a, b), s.Q) {
			t.Fatalf("Seam(%v, %v) = %v", a, b, s)
		}
		for _, p := range a {
			if turn(s.P, s.Q, p) < 0 {
				t.Fatalf("Seam(%v, %v) = %v: %v is to the right", a, b, s, p)
			}
		}
		for _, p := range b {
			if turn(s.P, s.Q, p) > 0 {
				t.Fatalf("Seam(%v, %v) = %v: %v is to the left", a, b, s, p)
			}
		}
		for _, p := range places() {
			if (plane.Inside(a, p) == 0 && plane.Inside(b, p) == 0) != on(s.P, s.Q, p) {
				t.Fatalf("Seam(%v, %v) = %v, and %v", a, b, s, p)
			}
		}
	})
	if seams < 300 {
		t.Errorf("%d seams", seams)
	}
}

// P7.6

// checkMoved checks what is said of one polygon and the same one after a move.
func checkMoved(t *testing.T, l, moved []api.Place, dx, dy int) {
	t.Helper()
	x, y := plane.Moments(l)
	newX, newY := plane.Moments(moved)
	interior, boundary := plane.Lattice(l)
	newInterior, newBoundary := plane.Lattice(moved)
	if plane.Area2(moved) != plane.Area2(l) || newInterior != interior || newBoundary != boundary || newX != x+3*dx*plane.Area2(l) || newY != y+3*dy*plane.Area2(l) {
		t.Fatalf("%v, and %v after a move", l, moved)
	}
}

func TestMoved(t *testing.T) {
	moves := 0
	pairs(60, 5000, func(r *rand.Rand, a, b []api.Place) {
		dx, dy := r.IntN(61)-30, r.IntN(61)-30
		if r.IntN(2) == 0 {
			dx, dy = r.IntN(7)-3, r.IntN(7)-3
		}
		movedA, err := plane.Move(a, dx, dy)
		movedB, other := plane.Move(b, dx, dy)
		if err != api.OK || other != api.OK {
			return
		}
		moves++
		checkMoved(t, a, movedA, dx, dy)
		checkMoved(t, b, movedB, dx, dy)
		checkOverlap(t, movedA, movedB, plane.Overlap(a, b))
		which, edge, found := plane.Side(a, b)
		checkSide(t, movedA, movedB, which, edge, found)
		if s, found := plane.Seam(a, b); found {
			checkSeam(t, movedA, movedB, at(s.P.X+dx, s.P.Y+dy), at(s.Q.X+dx, s.Q.Y+dy))
		} else {
			checkNoSeam(t, movedA, movedB)
		}
		back, err := plane.Move(movedA, -dx, -dy)
		if err != api.OK || !slices.Equal(back, a) {
			t.Fatalf("%v, moved by %d, %d and back: %v, %d", a, dx, dy, back, err)
		}
	})
	if moves < 1000 {
		t.Errorf("%d moves", moves)
	}
}

// P7.7

func TestInteriorIsToTheLeftOfAllEdges(t *testing.T) {
	polygons(70, 500, func(r *rand.Rand, l []api.Place) {
		for _, p := range places() {
			left := true
			for i := range l {
				left = left && turn(l[i], l[(i+1)%len(l)], p) > 0
			}
			if (plane.Inside(l, p) == 1) != left {
				t.Fatalf("Inside(%v, %v) = %d", l, p, plane.Inside(l, p))
			}
		}
	})
}

func TestHalfwayIsNotOutside(t *testing.T) {
	polygons(71, 300, func(r *rand.Rand, l []api.Place) {
		var within []api.Place
		for _, p := range places() {
			if plane.Inside(l, p) >= 0 {
				within = append(within, p)
			}
		}
		for range 400 {
			p, q := within[r.IntN(len(within))], within[r.IntN(len(within))]
			half := at((p.X+q.X)/2, (p.Y+q.Y)/2)
			if (p.X+q.X)%2 == 0 && (p.Y+q.Y)%2 == 0 && plane.Inside(l, half) < 0 {
				t.Fatalf("%v and %v are in %v, but %v is not", p, q, l, half)
			}
			if p != q && plane.Inside(l, p) == 1 && (p.X+q.X)%2 == 0 && (p.Y+q.Y)%2 == 0 {
				checkInside(t, l, half, 1)
			}
		}
	})
}

func TestCentersOfCells(t *testing.T) {
	cells := 0
	polygons(72, 500, func(r *rand.Rand, l []api.Place) {
		for _, p := range places() {
			if slices.ContainsFunc([]api.Place{p, at(p.X+1, p.Y), at(p.X+1, p.Y+1), at(p.X, p.Y+1)}, func(c api.Place) bool { return plane.Inside(l, c) < 0 }) {
				continue
			}
			cells++
			checkCell(t, l, p.X, p.Y, 1)
		}
	})
	if cells < 5000 {
		t.Errorf("%d cells", cells)
	}
}

// Small bytes are coordinates, one more than they are, so that some are off the map; a greater byte begins the second polygon.
func FuzzPlane(f *testing.F) {
	seed := func(a, b []api.Place) {
		var s []byte
		for _, p := range a {
			s = append(s, byte(p.X+1), byte(p.Y+1))
		}
		s = append(s, 200)
		for _, p := range b {
			s = append(s, byte(p.X+1), byte(p.Y+1))
		}
		f.Add(s)
	}
	seed(square(), neighbour())
	seed(square(), corner())
	seed(octagon(), whole())
	seed(slices.Repeat(triangle(), 2), of(41, 0, 41, 5, 3, 3))
	f.Fuzz(func(t *testing.T, s []byte) {
		var l [2][]api.Place
		for which := range l {
			for len(s) >= 2 && s[0] < 200 {
				l[which], s = append(l[which], at(int(s[0])-1, int(s[1])-1)), s[2:]
			}
			s = s[min(1, len(s)):]
		}
		a, b := l[0], l[1]
		if plane.Valid(a) != valid(a) || plane.Valid(b) != valid(b) {
			t.Fatalf("Valid(%v) = %t, Valid(%v) = %t", a, plane.Valid(a), b, plane.Valid(b))
		}
		if !valid(a) {
			checkNumbers(t, a, 0, 0, 0, 0, 0)
			checkInside(t, a, at(1, 1), -1)
			checkNoMove(t, a, 0, 0)
		} else {
			area, x, y := sums(a)
			interior, boundary := lattice(a)
			checkNumbers(t, a, area, x, y, interior, boundary)
			checkMove(t, a, 0, 0, a)
		}
		if !valid(a) || !valid(b) {
			checkOverlap(t, a, b, false)
			checkNoSeam(t, a, b)
			checkSide(t, a, b, 0, 0, false)
			return
		}
		checkOverlap(t, a, b, overlapping(a, b))
		which, edge, found := side(a, b)
		checkSide(t, a, b, which, edge, found)
		if _, found := plane.Seam(a, b); found != (len(shared(a, b)) > 1 && !overlapping(a, b)) {
			t.Fatalf("Seam(%v, %v): %t", a, b, found)
		}
	})
}

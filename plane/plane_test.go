package plane_test

import (
	"math"
	"math/rand/v2"
	"slices"
	"testing"

	"putlog/api"
	"putlog/plane"
)

// The functions in this part make arguments.

// of returns the places with these coordinates.
func of(coordinates ...int) []api.Place {
	var l []api.Place
	for i := 0; i < len(coordinates); i += 2 {
		l = append(l, at(coordinates[i], coordinates[i+1]))
	}
	return l
}

func at(x, y int) api.Place { return api.Place{X: x, Y: y} }

// The polygons of the chapter's examples, and the greatest one.
func triangle() []api.Place  { return of(0, 0, 6, 0, 0, 4) }
func square() []api.Place    { return of(0, 0, 4, 0, 4, 4, 0, 4) }
func neighbour() []api.Place { return of(4, 2, 8, 2, 8, 6, 4, 6) }
func corner() []api.Place    { return of(3, 3, 7, 3, 3, 7) }
func whole() []api.Place     { return of(0, 0, 40, 0, 40, 40, 0, 40) }

// octagon has as many corners as there may be.
func octagon() []api.Place { return of(10, 0, 30, 0, 40, 10, 40, 30, 30, 40, 10, 40, 0, 30, 0, 10) }

// hull returns the corners of the smallest convex polygon around the places of l, counterclockwise; fewer than three if they are on a line.
func hull(l []api.Place) []api.Place {
	l = slices.Clone(l)
	slices.SortFunc(l, compare)
	half := func(l []api.Place) []api.Place {
		var h []api.Place
		for _, p := range l {
			for len(h) > 1 && turn(h[len(h)-2], h[len(h)-1], p) <= 0 {
				h = h[:len(h)-1]
			}
			h = append(h, p)
		}
		return h[:len(h)-1]
	}
	l = slices.Compact(l)
	if len(l) < 3 {
		return l
	}
	below := half(l)
	slices.Reverse(l)
	return append(below, half(l)...)
}

// compare orders places from the left to the right, and then upward.
func compare(a, b api.Place) int {
	if a.X != b.X {
		return a.X - b.X
	}
	return a.Y - b.Y
}

func rotated(l []api.Place, n int) []api.Place { return slices.Concat(l[n:], l[:n]) }

// without returns l without the element i.
func without(l []api.Place, i int) []api.Place { return slices.Delete(slices.Clone(l), i, i+1) }

// random returns a valid polygon whose corners are not further from low than span, and not beyond the map.
func random(r *rand.Rand, low api.Place, span int) []api.Place {
	for {
		var l []api.Place
		for range 3 + r.IntN(20) {
			l = append(l, at(min(low.X+r.IntN(span+1), api.MaxCoord), min(low.Y+r.IntN(span+1), api.MaxCoord)))
		}
		l = hull(l)
		for len(l) > 3 && (len(l) > api.MaxSides || r.IntN(5) == 0) {
			l = without(l, r.IntN(len(l)))
		}
		if len(l) > 2 {
			return rotated(l, r.IntN(len(l)))
		}
	}
}

// some returns a valid polygon of any size anywhere on the map.
func some(r *rand.Rand) []api.Place {
	span := []int{1, 2, 3, 5, 10, 20, 40}[r.IntN(7)]
	return random(r, at(r.IntN(api.MaxCoord+1-span), r.IntN(api.MaxCoord+1-span)), span)
}

// pair returns two valid polygons that are close to each other: they overlap, touch along a segment or in a place, or are apart.
func pair(r *rand.Rand) ([]api.Place, []api.Place) {
	low, span := at(r.IntN(30), r.IntN(30)), []int{1, 2, 3, 4, 6, 10}[r.IntN(6)]
	a := random(r, low, span)
	if len(a) > 3 && r.IntN(3) > 0 {
		i := r.IntN(len(a))
		first, second, err := plane.Cut(a, i, (i+2)%len(a))
		if err == api.OK && r.IntN(2) == 0 {
			return first, second
		}
		if err == api.OK {
			a = first
		}
	}
	for {
		b := random(r, at(low.X+r.IntN(span+1), low.Y+r.IntN(span+1)), span)
		if r.IntN(2) == 0 {
			return a, b
		}
		// Laid onto an edge of a, b often touches it along a part of this edge.
		i, k := r.IntN(len(a)), r.IntN(len(b))
		if moved, err := plane.Move(b, a[i].X-b[k].X, a[i].Y-b[k].Y); err == api.OK {
			return a, moved
		}
	}
}

// all returns all valid polygons whose corners have coordinates from 0 to side - 1, each of them with one of its corners first.
func all(side int) [][]api.Place {
	var l [][]api.Place
	for set := range 1 << (side * side) {
		var corners []api.Place
		for i := range side * side {
			if set>>i&1 == 1 {
				corners = append(corners, at(i%side, i/side))
			}
		}
		if h := hull(corners); len(h) > 2 && len(h) == len(corners) && len(h) <= api.MaxSides {
			l = append(l, rotated(h, set%len(h)))
		}
	}
	return l
}

// extremes returns numbers that are far away from the map, or just outside of it.
func extremes() []int {
	return []int{-1, -2, api.MaxCoord + 1, api.MaxCoord + 2, math.MinInt, math.MinInt + 1, math.MaxInt, math.MaxInt - 1, math.MinInt32, math.MaxInt32, 1 << 32, -1 << 32, 1 << 62, -1 << 62, 3 << 60, 1 << 33, 5 << 60}
}

// invalid returns lists of places that are not valid polygons.
func invalid() [][]api.Place {
	l := [][]api.Place{
		nil, {}, of(1, 1), of(0, 0, 4, 0), of(0, 0, 0, 0), of(2, 2, 2, 2, 2, 2),
		// nine corners and more, some of which would be valid with eight
		of(10, 0, 20, 0, 30, 5, 35, 15, 35, 25, 30, 35, 20, 40, 10, 35, 5, 15), slices.Repeat(square(), 1000), append(octagon(), at(3, 6)),
		// clockwise
		of(0, 0, 0, 4, 6, 0), of(0, 0, 0, 4, 4, 4, 4, 0),
		// on a line
		of(0, 0, 1, 1, 2, 2), of(0, 0, 2, 2, 1, 1), of(0, 0, 4, 0, 2, 0), of(0, 0, 2, 0, 4, 0, 4, 4), of(0, 0, 4, 0, 4, 4, 4, 2), of(0, 0, 4, 0, 4, 4, 2, 2), of(2, 2, 0, 0, 4, 0, 4, 4), of(40, 0, 40, 20, 40, 40),
		// not convex
		of(0, 0, 4, 0, 1, 1, 0, 4), of(0, 0, 4, 0, 4, 4, 3, 1), of(1, 1, 0, 4, 0, 0, 4, 0), of(0, 0, 8, 0, 8, 8, 4, 1, 0, 8),
		// edges that cross each other
		of(0, 0, 4, 4, 4, 0, 0, 4), of(0, 0, 4, 0, 0, 4, 4, 4), of(0, 4, 4, 1, 1, 0, 4, 6, 3, 0),
		// a star, which turns to the left at each corner
		of(10, 0, 20, 30, 0, 10, 25, 10, 2, 30), of(20, 0, 30, 40, 0, 15, 40, 15, 10, 40),
		// corners that are listed twice
		of(0, 0, 0, 0, 4, 0, 0, 4), of(0, 0, 4, 0, 4, 0, 0, 4), of(0, 0, 4, 0, 0, 4, 0, 0), of(0, 0, 4, 0, 0, 0), of(0, 0, 4, 0, 4, 4, 4, 0), of(0, 0, 4, 0, 4, 4, 0, 0), slices.Repeat(triangle(), 2), slices.Repeat(square(), 2),
	}
	for _, n := range extremes() {
		l = append(l, of(n, 0, 4, 0, 0, 4), of(0, n, 4, 0, 0, 4), of(0, 0, n, 0, 0, 4), of(0, 0, 4, n, 0, 4), of(0, 0, 4, 0, n, 4), of(0, 0, 4, 0, 0, n), of(0, 0, 4, 0, 4, 4, n, 4), of(0, 0, 4, 0, 4, 4, 0, n), of(n, n, n, n, n, n), of(0, 0, n, 0, n, n, 0, n), of(n, n, 4, 0, 4, 4))
	}
	return l
}

// The functions in this part say the definitions of the chapter again, in another way where there is one.

// turn returns the turn of a, b and c.
func turn(a, b, c api.Place) int { return (b.X-a.X)*(c.Y-a.Y) - (b.Y-a.Y)*(c.X-a.X) }

// valid reports whether l is what a polygon is: as many corners as there may be, all on the map, listed counterclockwise as those of the smallest convex polygon around them.
func valid(l []api.Place) bool {
	for _, p := range l {
		if p.X < 0 || p.X > 40 || p.Y < 0 || p.Y > 40 {
			return false
		}
	}
	if len(l) < 3 || len(l) > 8 {
		return false
	}
	h := hull(l)
	i := slices.Index(l, h[0])
	return slices.Equal(h, rotated(l, i)) && len(h) > 2
}

// triangles calls use for each of the triangles into which the diagonals of the first corner cut l.
func triangles(l []api.Place, use func(a, b, c api.Place)) {
	for i := 2; i < len(l); i++ {
		use(l[0], l[i-1], l[i])
	}
}

// sums returns twice the area of l, and six times the integrals of x and of y over it, as the sums of those of triangles.
func sums(l []api.Place) (area, x, y int) {
	triangles(l, func(a, b, c api.Place) {
		n := turn(a, b, c)
		area, x, y = area+n, x+n*(a.X+b.X+c.X), y+n*(a.Y+b.Y+c.Y)
	})
	return area, x, y
}

// on reports whether p is on the segment from a to b.
func on(a, b, p api.Place) bool {
	return turn(a, b, p) == 0 && min(a.X, b.X) <= p.X && p.X <= max(a.X, b.X) && min(a.Y, b.Y) <= p.Y && p.Y <= max(a.Y, b.Y)
}

// inside returns what Inside does: 0 on an edge, 1 elsewhere in one of the triangles of a valid polygon, and -1 outside of them.
func inside(l []api.Place, p api.Place) int {
	for i := range l {
		if on(l[i], l[(i+1)%len(l)], p) {
			return 0
		}
	}
	found := -1
	triangles(l, func(a, b, c api.Place) {
		if min(turn(a, b, p), turn(b, c, p), turn(c, a, p)) >= 0 {
			found = 1
		}
	})
	return found
}

// lattice counts the places with whole coordinates in the interior of a valid polygon, and on its boundary.
func lattice(l []api.Place) (interior, boundary int) {
	for _, p := range places() {
		switch inside(l, p) {
		case 1:
			interior++
		case 0:
			boundary++
		}
	}
	return interior, boundary
}

// places returns all places on the map.
func places() []api.Place {
	var l []api.Place
	for i := range 41 * 41 {
		l = append(l, at(i%41, i/41))
	}
	return l
}

// separates reports whether the edge i of a separates a and b.
func separates(a []api.Place, i int, b []api.Place) bool {
	for _, c := range b {
		if turn(a[i], a[(i+1)%len(a)], c) > 0 {
			return false
		}
	}
	return true
}

// side returns what Side does for valid polygons.
func side(a, b []api.Place) (int, int, bool) {
	for i := range len(a) + len(b) {
		switch {
		case i < len(a) && separates(a, i, b):
			return 0, i, true
		case i >= len(a) && separates(b, i-len(a), a):
			return 1, i - len(a), true
		}
	}
	return 0, 0, false
}

// The functions in this part check what a call returns.

func checkNumbers(t *testing.T, l []api.Place, area, x, y, interior, boundary int) {
	t.Helper()
	if got := plane.Area2(l); got != area {
		t.Fatalf("Area2(%v) = %d; want %d", l, got, area)
	}
	if gotX, gotY := plane.Moments(l); gotX != x || gotY != y {
		t.Fatalf("Moments(%v) = %d, %d; want %d, %d", l, gotX, gotY, x, y)
	}
	if a, b := plane.Lattice(l); a != interior || b != boundary {
		t.Fatalf("Lattice(%v) = %d, %d; want %d, %d", l, a, b, interior, boundary)
	}
}

func checkInside(t *testing.T, l []api.Place, p api.Place, want int) {
	t.Helper()
	if got := plane.Inside(l, p); got != want {
		t.Fatalf("Inside(%v, %v) = %d; want %d", l, p, got, want)
	}
}

func checkCell(t *testing.T, l []api.Place, x, y, want int) {
	t.Helper()
	if got := plane.Cell(l, x, y); got != want {
		t.Fatalf("Cell(%v, %d, %d) = %d; want %d", l, x, y, got, want)
	}
}

func checkCut(t *testing.T, l []api.Place, i, k int, first, second []api.Place) {
	t.Helper()
	if a, b, err := plane.Cut(l, i, k); !slices.Equal(a, first) || !slices.Equal(b, second) || err != api.OK {
		t.Fatalf("Cut(%v, %d, %d) = %v, %v, %d; want %v, %v", l, i, k, a, b, err, first, second)
	}
}

func checkNoCut(t *testing.T, l []api.Place, i, k int) {
	t.Helper()
	if a, b, err := plane.Cut(l, i, k); len(a) != 0 || len(b) != 0 || err != api.ErrPlane {
		t.Fatalf("Cut(%v, %d, %d) = %v, %v, %d; want ErrPlane", l, i, k, a, b, err)
	}
}

func checkMove(t *testing.T, l []api.Place, dx, dy int, want []api.Place) {
	t.Helper()
	if got, err := plane.Move(l, dx, dy); !slices.Equal(got, want) || err != api.OK {
		t.Fatalf("Move(%v, %d, %d) = %v, %d; want %v", l, dx, dy, got, err, want)
	}
}

func checkNoMove(t *testing.T, l []api.Place, dx, dy int) {
	t.Helper()
	if got, err := plane.Move(l, dx, dy); len(got) != 0 || err != api.ErrPlane {
		t.Fatalf("Move(%v, %d, %d) = %v, %d; want ErrPlane", l, dx, dy, got, err)
	}
}

func checkOverlap(t *testing.T, a, b []api.Place, want bool) {
	t.Helper()
	if got := plane.Overlap(a, b); got != want {
		t.Fatalf("Overlap(%v, %v) = %t", a, b, got)
	}
}

func checkSeam(t *testing.T, a, b []api.Place, p, q api.Place) {
	t.Helper()
	if got, found := plane.Seam(a, b); got != (api.Seam{P: p, Q: q}) || !found {
		t.Fatalf("Seam(%v, %v) = %v, %t; want %v, %v", a, b, got, found, p, q)
	}
}

func checkNoSeam(t *testing.T, a, b []api.Place) {
	t.Helper()
	if got, found := plane.Seam(a, b); got != (api.Seam{}) || found {
		t.Fatalf("Seam(%v, %v) = %v, %t; want none", a, b, got, found)
	}
}

func checkSide(t *testing.T, a, b []api.Place, which, edge int, found bool) {
	t.Helper()
	if x, y, ok := plane.Side(a, b); x != which || y != edge || ok != found {
		t.Fatalf("Side(%v, %v) = %d, %d, %t; want %d, %d, %t", a, b, x, y, ok, which, edge, found)
	}
}

// P7.1: Valid

func TestValid(t *testing.T) {
	for _, l := range [][]api.Place{
		triangle(), square(), neighbour(), corner(), whole(), octagon(), of(0, 0, 1, 0, 0, 1), of(40, 40, 39, 40, 40, 39), of(0, 0, 40, 39, 39, 39), of(0, 0, 40, 1, 40, 2), of(40, 0, 40, 40, 0, 40),
		of(1, 0, 2, 0, 3, 1, 3, 2, 2, 3, 1, 3, 0, 2, 0, 1), of(0, 0, 40, 0, 40, 40, 20, 39), of(20, 1, 40, 0, 0, 40),
	} {
		for i := range l {
			if !plane.Valid(rotated(l, i)) {
				t.Errorf("Valid(%v) = false", rotated(l, i))
			}
			if back := rotated(l, i); plane.Valid(reversed(back)) {
				t.Errorf("Valid(%v) = true", reversed(back))
			}
		}
	}
	for _, l := range invalid() {
		if plane.Valid(l) {
			t.Errorf("Valid(%v) = true", l)
		}
	}
}

func reversed(l []api.Place) []api.Place {
	l = slices.Clone(l)
	slices.Reverse(l)
	return l
}

// lists calls use for all lists of n places with coordinates from 0 to side - 1.
func lists(n, side int, use func(l []api.Place)) {
	l := make([]api.Place, n)
	var fill func(i int)
	fill = func(i int) {
		if i == n {
			use(l)
			return
		}
		for k := range side * side {
			l[i] = at(k%side, k/side)
			fill(i + 1)
		}
	}
	fill(0)
}

func TestValidOfAllSmallLists(t *testing.T) {
	number := 0
	for _, c := range [][2]int{{1, 4}, {2, 4}, {3, 5}, {4, 4}, {5, 3}, {6, 3}} {
		lists(c[0], c[1], func(l []api.Place) {
			if got := plane.Valid(l); got != valid(l) {
				t.Fatalf("Valid(%v) = %t", l, got)
			} else if got {
				number++
			}
		})
	}
	if number < 5000 {
		t.Errorf("%d are valid", number)
	}
}

func TestValidOfPolygonsThatWereChanged(t *testing.T) {
	r := rand.New(rand.NewPCG(7, 1))
	number := 0
	for range 60000 {
		l := some(r)
		if !plane.Valid(l) {
			t.Fatalf("Valid(%v) = false", l)
		}
		i, k := r.IntN(len(l)), r.IntN(len(l))
		switch r.IntN(6) {
		case 0:
			l[i], l[k] = l[k], l[i]
		case 1:
			l = without(l, i)
		case 2:
			l = slices.Insert(l, i, l[k])
		case 3:
			l[i] = at(r.IntN(45)-2, r.IntN(45)-2)
		case 4:
			l[i].X, l[i].Y = l[i].X+r.IntN(3)-1, l[i].Y+r.IntN(3)-1
		case 5:
			l = slices.Insert(l, i, at(r.IntN(45)-2, r.IntN(45)-2))
		}
		if got := plane.Valid(l); got != valid(l) {
			t.Fatalf("Valid(%v) = %t", l, got)
		} else if got {
			number++
		}
	}
	if number < 10000 || number > 50000 {
		t.Errorf("%d are valid", number)
	}
}

// The map ends at 0 and at MaxCoord in each direction, for each corner.
func TestValidAtTheLimits(t *testing.T) {
	for _, l := range [][]api.Place{whole(), octagon(), of(0, 0, 40, 0, 40, 40), of(0, 40, 0, 0, 40, 40)} {
		if !plane.Valid(l) {
			t.Errorf("Valid(%v) = false", l)
		}
		for i, p := range l {
			for _, q := range []api.Place{at(-1, p.Y), at(p.X, -1), at(41, p.Y), at(p.X, 41), at(p.X+41, p.Y), at(p.X, p.Y+41), at(p.X-41, p.Y), at(p.X, p.Y-41)} {
				l[i] = q
				if plane.Valid(l) {
					t.Errorf("Valid(%v) = true", l)
				}
			}
			l[i] = p
		}
	}
}

// P7.1: Area2, Moments and Lattice

func TestNumbersOfExamples(t *testing.T) {
	checkNumbers(t, triangle(), 24, 144, 96, 7, 12)
	checkNumbers(t, square(), 32, 192, 192, 9, 16)
	checkNumbers(t, neighbour(), 32, 576, 384, 9, 16)
	checkNumbers(t, corner(), 16, 208, 208, 3, 12)
	checkNumbers(t, whole(), 3200, 192000, 192000, 39*39, 160)
	checkNumbers(t, octagon(), 2800, 168000, 168000, 1341, 120)
	checkNumbers(t, of(0, 0, 1, 0, 0, 1), 1, 1, 1, 0, 3)
	checkNumbers(t, of(39, 40, 40, 39, 40, 40), 1, 119, 119, 0, 3)
	checkNumbers(t, of(0, 0, 40, 39, 39, 39), 39, 3081, 3042, 0, 41)
	for _, l := range invalid() {
		checkNumbers(t, l, 0, 0, 0, 0, 0)
	}
}

func TestNumbersOfAllSmallPolygons(t *testing.T) {
	for _, l := range all(4) {
		area, x, y := sums(l)
		interior, boundary := lattice(l)
		checkNumbers(t, l, area, x, y, interior, boundary)
	}
}

func TestNumbersOfAllSizes(t *testing.T) {
	r := rand.New(rand.NewPCG(7, 2))
	for range 3000 {
		l := some(r)
		area, x, y := sums(l)
		interior, boundary := lattice(l)
		for i := range l {
			checkNumbers(t, rotated(l, i), area, x, y, interior, boundary)
		}
	}
}

// P7.1: Inside and Cell

func TestInsideExamples(t *testing.T) {
	checkInside(t, square(), at(2, 2), 1)
	checkInside(t, square(), at(4, 4), 0)
	checkInside(t, square(), at(5, 5), -1)
	for _, p := range of(0, 0, 4, 0, 0, 4, 1, 0, 3, 4, 0, 2, 4, 1) {
		checkInside(t, square(), p, 0)
	}
	// These are on the lines of edges, but not on edges.
	for _, p := range of(5, 0, 5, 4, 4, 5, 0, 5, 40, 0, 0, 40) {
		checkInside(t, square(), p, -1)
	}
	for _, p := range of(3, 2, 6, 0, 0, 0) {
		checkInside(t, triangle(), p, 0)
	}
	checkInside(t, triangle(), at(3, 1), 1)
	checkInside(t, triangle(), at(4, 2), -1)
	checkInside(t, whole(), at(40, 40), 0)
	checkInside(t, whole(), at(39, 1), 1)
}

func TestInsideOfAllPlaces(t *testing.T) {
	r := rand.New(rand.NewPCG(7, 3))
	polygons := append(all(3), triangle(), square(), whole(), octagon())
	for range 400 {
		polygons = append(polygons, some(r))
	}
	for _, l := range polygons {
		for _, p := range places() {
			checkInside(t, l, p, inside(l, p))
		}
	}
}

func TestFarPlacesAreOutside(t *testing.T) {
	far := extremes()
	for _, l := range [][]api.Place{triangle(), square(), corner(), whole(), octagon(), of(20, 0, 40, 40, 0, 40), of(0, 0, 40, 1, 1, 40)} {
		for _, x := range far {
			for _, y := range append(extremes(), 0, 1, 2, 20, 40) {
				for _, p := range []api.Place{at(x, y), at(y, x)} {
					checkInside(t, l, p, -1)
					checkCell(t, l, p.X, p.Y, -1)
				}
			}
		}
	}
}

func TestInsideOfInvalidPolygons(t *testing.T) {
	for _, l := range invalid() {
		for _, p := range append(of(0, 0, 1, 1, 2, 1, 4, 0, 0, 4, 20, 20, -1, 3, 41, 3), l[:min(len(l), 8)]...) {
			checkInside(t, l, p, -1)
			checkCell(t, l, p.X, p.Y, -1)
		}
	}
}

func TestCellExamples(t *testing.T) {
	checkCell(t, triangle(), 1, 2, 1)
	checkCell(t, triangle(), 2, 2, -1)
	for i := range 4 {
		checkCell(t, of(0, 0, 4, 0, 4, 4), i, i, 0)
		checkCell(t, of(0, 0, 4, 0, 0, 4), i, 3-i, 0)
		checkCell(t, square(), i, 3-i, 1)
		checkCell(t, square(), i, 4, -1)
		checkCell(t, square(), 4, i, -1)
		checkCell(t, square(), i, -1, -1)
		checkCell(t, square(), -1, i, -1)
	}
	checkCell(t, of(0, 0, 4, 0, 4, 4), 4, 4, -1)
	checkCell(t, of(0, 0, 4, 1, 1, 2), 1, 0, 1)
	checkCell(t, of(0, 0, 3, 1, 1, 3), 1, 0, 0)
	checkCell(t, of(0, 0, 3, 1, 1, 3), 0, 1, 0)
	checkCell(t, of(0, 0, 3, 2, 1, 3), 1, 0, -1)
	for _, c := range [][3]int{{0, 0, 1}, {39, 39, 1}, {0, 39, 1}, {40, 39, -1}, {39, 40, -1}, {40, 40, -1}, {-1, 0, -1}} {
		checkCell(t, whole(), c[0], c[1], c[2])
	}
}

// The center of a cell is a place at twice the scale.
func TestCellOfAllCells(t *testing.T) {
	r := rand.New(rand.NewPCG(7, 4))
	polygons := append(all(3), triangle(), square(), whole(), octagon())
	for range 400 {
		polygons = append(polygons, some(r))
	}
	boundary := 0
	for _, l := range polygons {
		var doubled []api.Place
		for _, p := range l {
			doubled = append(doubled, at(2*p.X, 2*p.Y))
		}
		for x := -2; x < 43; x++ {
			for y := -2; y < 43; y++ {
				want := inside(doubled, at(2*x+1, 2*y+1))
				checkCell(t, l, x, y, want)
				if want == 0 {
					boundary++
				}
			}
		}
	}
	if boundary < 100 {
		t.Errorf("%d centers are on a boundary", boundary)
	}
}

// P7.1: Cut and Move

func TestCutExamples(t *testing.T) {
	checkCut(t, square(), 0, 2, of(0, 0, 4, 0, 4, 4), of(4, 4, 0, 4, 0, 0))
	checkCut(t, square(), 2, 0, of(4, 4, 0, 4, 0, 0), of(0, 0, 4, 0, 4, 4))
	checkCut(t, square(), 1, 3, of(4, 0, 4, 4, 0, 4), of(0, 4, 0, 0, 4, 0))
	checkCut(t, octagon(), 6, 1, of(0, 30, 0, 10, 10, 0, 30, 0), of(30, 0, 40, 10, 40, 30, 30, 40, 10, 40, 0, 30))
	checkCut(t, octagon(), 0, 6, of(10, 0, 30, 0, 40, 10, 40, 30, 30, 40, 10, 40, 0, 30), of(0, 30, 0, 10, 10, 0))
	checkNoCut(t, square(), 0, 1)
	checkNoCut(t, square(), 3, 0)
	checkNoCut(t, square(), 2, 2)
}

func TestCutOfAllCorners(t *testing.T) {
	for _, l := range [][]api.Place{triangle(), square(), of(0, 0, 5, 1, 6, 4, 3, 6, 1, 5), without(without(octagon(), 3), 0), without(octagon(), 7), octagon()} {
		n := len(l)
		for i := -n - 2; i < 2*n+2; i++ {
			for k := -n - 2; k < 2*n+2; k++ {
				if min(i, k) < 0 || max(i, k) >= n || i == k || (i+1)%n == k || (k+1)%n == i {
					checkNoCut(t, l, i, k)
					continue
				}
				var first, second []api.Place
				for m := i; m != (k+1)%n; m = (m + 1) % n {
					first = append(first, l[m])
				}
				for m := k; m != (i+1)%n; m = (m + 1) % n {
					second = append(second, l[m])
				}
				checkCut(t, l, i, k, first, second)
			}
		}
	}
}

func TestCutRefused(t *testing.T) {
	for _, n := range append(extremes(), 4, 5, 8) {
		for _, k := range []int{0, 1, 2, 3, n, -1, math.MaxInt, math.MinInt} {
			checkNoCut(t, square(), n, k)
			checkNoCut(t, square(), k, n)
		}
	}
	for _, l := range invalid() {
		for i := range 4 {
			for k := range 4 {
				checkNoCut(t, l, i, k)
			}
		}
	}
}

func TestMoveExamples(t *testing.T) {
	checkMove(t, square(), 0, 0, square())
	checkMove(t, triangle(), 3, 5, of(3, 5, 9, 5, 3, 9))
	checkMove(t, neighbour(), -4, -2, square())
	checkMove(t, square(), 36, 36, of(36, 36, 40, 36, 40, 40, 36, 40))
	checkMove(t, of(36, 36, 40, 36, 40, 40, 36, 40), -36, -36, square())
	checkMove(t, whole(), 0, 0, whole())
	checkNoMove(t, square(), 37, 0)
	checkNoMove(t, square(), 0, 37)
	checkNoMove(t, square(), -1, 0)
	checkNoMove(t, square(), 0, -1)
	checkNoMove(t, whole(), 1, 0)
}

func TestMoveOfAllDistances(t *testing.T) {
	r := rand.New(rand.NewPCG(7, 5))
	polygons := [][]api.Place{triangle(), octagon(), of(40, 40, 39, 40, 40, 39), of(20, 20, 21, 20, 20, 21)}
	for range 20 {
		polygons = append(polygons, some(r))
	}
	for _, l := range polygons {
		for dx := -42; dx <= 42; dx++ {
			for dy := -42; dy <= 42; dy++ {
				var moved []api.Place
				for _, p := range l {
					moved = append(moved, at(p.X+dx, p.Y+dy))
				}
				if valid(moved) {
					checkMove(t, l, dx, dy, moved)
				} else {
					checkNoMove(t, l, dx, dy)
				}
			}
		}
	}
}

func TestMoveRefused(t *testing.T) {
	far := append(extremes(), math.MaxInt-40, math.MinInt+40, math.MaxInt-4, -41, -100)
	for _, n := range far {
		for _, m := range append(far, 0, 1) {
			for _, l := range [][]api.Place{whole(), of(0, 0, 40, 0, 40, 40), of(20, 0, 40, 20, 20, 40, 0, 20)} {
				checkNoMove(t, l, n, m)
				checkNoMove(t, l, m, n)
			}
		}
	}
	for _, l := range invalid() {
		for _, d := range [][2]int{{0, 0}, {1, 1}, {1, 0}, {-1, -1}, {2, 2}} {
			checkNoMove(t, l, d[0], d[1])
		}
	}
	// Moved, these would be on the map.
	checkNoMove(t, of(-1, 0, 3, 0, 3, 4), 1, 0)
	checkNoMove(t, of(37, 0, 41, 0, 41, 4), -1, 0)
	checkNoMove(t, of(math.MinInt, 0, math.MinInt+4, 0, math.MinInt+4, 4), math.MinInt, 0)
	checkNoMove(t, of(math.MaxInt-4, 0, math.MaxInt, 0, math.MaxInt, 4), -math.MaxInt+4, 0)
}

// P7.1: Overlap, Seam and Side

func TestPairsOfExamples(t *testing.T) {
	checkOverlap(t, square(), neighbour(), false)
	checkOverlap(t, square(), corner(), true)
	checkSeam(t, square(), neighbour(), at(4, 2), at(4, 4))
	checkSeam(t, neighbour(), square(), at(4, 4), at(4, 2))
	checkNoSeam(t, square(), corner())
	checkSide(t, square(), neighbour(), 0, 1, true)
	checkSide(t, square(), corner(), 0, 0, false)
	for _, l := range [][]api.Place{triangle(), square(), whole(), octagon()} {
		checkOverlap(t, l, l, true)
		checkNoSeam(t, l, l)
		checkSide(t, l, l, 0, 0, false)
	}
	// One of these is inside of the other one.
	checkOverlap(t, whole(), square(), true)
	checkOverlap(t, neighbour(), whole(), true)
	checkNoSeam(t, whole(), square())
	checkSide(t, whole(), square(), 0, 0, false)
	// These have no corner in the interior of the other one.
	cross := of(1, 0, 2, 0, 2, 3, 1, 3)
	checkOverlap(t, of(0, 1, 3, 1, 3, 2, 0, 2), cross, true)
	checkSide(t, cross, of(0, 1, 3, 1, 3, 2, 0, 2), 0, 0, false)
	checkOverlap(t, of(4, 0, 8, 4, 4, 8, 0, 4), of(1, 1, 7, 1, 7, 7, 1, 7), true)
}

func TestPairsThatTouch(t *testing.T) {
	unit := of(1, 1, 2, 1, 2, 2, 1, 2)
	for _, c := range []struct{ b, ends []api.Place }{
		// The whole edge of both, or of one of them, or a part of it.
		{of(2, 1, 3, 1, 3, 2, 2, 2), of(2, 1, 2, 2)}, {of(0, 1, 1, 1, 1, 2, 0, 2), of(1, 2, 1, 1)}, {of(1, 2, 2, 2, 2, 3, 1, 3), of(2, 2, 1, 2)}, {of(1, 0, 2, 0, 2, 1, 1, 1), of(1, 1, 2, 1)},
		{of(2, 0, 3, 0, 3, 9, 2, 9), of(2, 1, 2, 2)}, {of(0, 0, 9, 0, 9, 1, 0, 1), of(1, 1, 2, 1)}, {of(0, 2, 9, 2, 5, 7), of(2, 2, 1, 2)}, {of(2, 1, 3, 0, 2, 4), of(2, 1, 2, 2)},
		// A place, or nothing, also with edges on one line.
		{of(2, 2, 3, 2, 3, 3, 2, 3), nil}, {of(0, 0, 1, 0, 1, 1, 0, 1), nil}, {of(2, 1, 3, 0, 3, 1), nil}, {of(2, 2, 2, 3, 1, 3), nil}, {of(2, 2, 3, 1, 3, 3), nil}, {of(3, 1, 4, 1, 4, 2, 3, 2), nil}, {of(2, 3, 5, 3, 5, 5), nil}, {of(1, 3, 3, 1, 3, 3, 2, 4), nil},
		{of(2, 2, 4, 2, 4, 3, 2, 3), nil}, {of(2, 3, 3, 3, 3, 5, 2, 5), nil}, {of(3, 2, 5, 2, 5, 4), nil}, {of(3, 0, 4, 0, 4, 1, 3, 1), nil}, {of(30, 30, 40, 30, 30, 40), nil},
	} {
		checkTouch(t, unit, c.b, c.ends)
	}
	slope := of(2, 1, 8, 4, 4, 6)
	for _, c := range []struct{ b, ends []api.Place }{
		{of(0, 0, 10, 0, 10, 5), of(2, 1, 8, 4)}, {of(4, 2, 5, 0, 6, 3), of(4, 2, 6, 3)}, {of(0, 0, 4, 0, 4, 2), of(2, 1, 4, 2)}, {of(6, 3, 9, 1, 12, 6), of(6, 3, 8, 4)}, {of(8, 4, 10, 4, 10, 5), nil}, {of(0, 0, 1, 0, 2, 1), nil}, {of(10, 5, 12, 2, 12, 6), nil}, {of(2, 0, 3, 0, 6, 3, 3, 1), nil},
	} {
		checkTouch(t, slope, c.b, c.ends)
	}
}

// checkTouch checks that a and b do not overlap, and that the seam is from the first to the second one of the ends, if there are any.
func checkTouch(t *testing.T, a, b, ends []api.Place) {
	t.Helper()
	for i := range a {
		for k := range b {
			x, y := rotated(a, i), rotated(b, k)
			checkOverlap(t, x, y, false)
			checkOverlap(t, y, x, false)
			if ends == nil {
				checkNoSeam(t, x, y)
				checkNoSeam(t, y, x)
				continue
			}
			checkSeam(t, x, y, ends[0], ends[1])
			checkSeam(t, y, x, ends[1], ends[0])
		}
	}
}

// The edges of the first polygon come first, and of several edges the first one.
func TestSideOrder(t *testing.T) {
	far := of(20, 20, 30, 20, 30, 30, 20, 30)
	checkSide(t, square(), far, 0, 1, true)
	checkSide(t, far, square(), 0, 0, true)
	checkSide(t, rotated(square(), 2), far, 0, 0, true)
	checkSide(t, rotated(square(), 3), far, 0, 2, true)
	checkSide(t, rotated(far, 1), square(), 0, 2, true)
	// No edge of the triangle separates these.
	checkSide(t, of(0, 0, 4, 4, 0, 8), of(5, 2, 8, 2, 8, 6, 5, 6), 1, 3, true)
	checkSide(t, of(5, 2, 8, 2, 8, 6, 5, 6), of(0, 0, 4, 4, 0, 8), 0, 3, true)
	checkSide(t, of(4, 4, 0, 8, 0, 0), rotated(of(5, 2, 8, 2, 8, 6, 5, 6), 2), 1, 1, true)
}

func TestSideOfManyPairs(t *testing.T) {
	r := rand.New(rand.NewPCG(7, 6))
	check := func(a, b []api.Place) {
		t.Helper()
		which, edge, found := side(a, b)
		checkSide(t, a, b, which, edge, found)
	}
	small := all(3)
	for _, a := range small {
		for _, b := range small {
			check(a, b)
		}
	}
	for range 30000 {
		check(pair(r))
		check(some(r), some(r))
	}
}

func TestPairsWithInvalidPolygons(t *testing.T) {
	for _, a := range invalid() {
		for _, b := range append(invalid(), square(), of(20, 20, 30, 20, 30, 30), whole()) {
			for _, c := range [][2][]api.Place{{a, b}, {b, a}} {
				checkOverlap(t, c[0], c[1], false)
				checkNoSeam(t, c[0], c[1])
				checkSide(t, c[0], c[1], 0, 0, false)
			}
		}
	}
}

// R3

// padded returns l with spare capacity, in which there are other places.
func padded(l []api.Place) []api.Place {
	n := len(l)
	return append(slices.Clone(l), of(9, 9, 8, 8, 7, 7, 6, 6, 5, 5, 4, 4)...)[:n]
}

func TestArgumentsAreNotModified(t *testing.T) {
	for _, c := range [][2][]api.Place{{square(), neighbour()}, {octagon(), square()}, {square(), corner()}, {of(1, 1, 1, 4, 4, 1), square()}, {square(), nil}} {
		a, b := padded(c[0]), padded(c[1])
		wholeA, wholeB := slices.Clone(a[:cap(a)]), slices.Clone(b[:cap(b)])
		plane.Valid(a)
		plane.Area2(a)
		plane.Moments(a)
		plane.Lattice(a)
		plane.Inside(a, at(1, 1))
		plane.Cell(a, 1, 1)
		plane.Cut(a, 0, 2)
		plane.Cut(a, 2, 0)
		plane.Move(a, 1, 1)
		plane.Overlap(a, b)
		plane.Seam(a, b)
		plane.Seam(b, a)
		plane.Side(a, b)
		if !slices.Equal(a[:cap(a)], wholeA) || !slices.Equal(b[:cap(b)], wholeB) {
			t.Errorf("%v, %v", a[:cap(a)], b[:cap(b)])
		}
	}
}

// overwrite changes l, and its spare capacity.
func overwrite(l []api.Place) {
	l = l[:cap(l)]
	for i := range l {
		l[i] = at(-7, -7)
	}
}

func TestResultsAreNewMemory(t *testing.T) {
	l := padded(octagon())
	kept := slices.Clone(l[:cap(l)])
	for i := range l {
		for k := range l {
			a, b, _ := plane.Cut(l, i, k)
			wantB := slices.Clone(b)
			overwrite(a)
			if !slices.Equal(b, wantB) || !slices.Equal(l[:cap(l)], kept) {
				t.Fatalf("Cut(.., %d, %d) shares memory", i, k)
			}
			a, b, _ = plane.Cut(l, i, k)
			wantA := slices.Clone(a)
			overwrite(b)
			if !slices.Equal(a, wantA) || !slices.Equal(l[:cap(l)], kept) {
				t.Fatalf("Cut(.., %d, %d) shares memory", i, k)
			}
		}
	}
	moved, _ := plane.Move(l, 0, 0)
	overwrite(moved)
	if !slices.Equal(l[:cap(l)], kept) {
		t.Error("Move shares memory")
	}
	again, _ := plane.Move(l, 0, 0)
	if !slices.Equal(again, octagon()) {
		t.Errorf("%v", again)
	}
}

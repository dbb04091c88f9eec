package unit_test

import (
	"math"
	"math/rand/v2"
	"reflect"
	"slices"
	"strings"
	"testing"

	"putlog/api"
	"putlog/plane"
	"putlog/unit"
	"putlog/wire"
)

// The functions in this part make arguments.

// of returns the places with these coordinates.
func of(coordinates ...int) []api.Place {
	var l []api.Place
	for i := 0; i < len(coordinates); i += 2 {
		l = append(l, at(coordinates[i], coordinates[i+1]))
	}
	return l
}

func at(x, y int) api.Place { return api.Place{X: x, Y: y} }

// The units of the chapter's examples.
func stone() api.Unit {
	return api.Unit{ID: 3, Kind: 2, Material: 0, Shape: of(0, 0, 4, 0, 4, 4, 0, 4), Back: 0, Front: 2}
}
func brick() api.Unit {
	return api.Unit{ID: 5, Kind: 3, Material: 3, Shape: of(4, 2, 8, 2, 8, 6, 4, 6), Back: 1, Front: 4}
}

// greatest has the greatest numbers that there may be, and fills the elevation.
func greatest() api.Unit {
	return api.Unit{ID: 99, Kind: 8, Material: 7, Shape: of(0, 0, 40, 0, 40, 40, 0, 40), Back: 0, Front: 8}
}

// octagon has as many corners as there may be.
func octagon() api.Unit {
	return api.Unit{ID: 0, Kind: 1, Material: 1, Shape: of(10, 0, 30, 0, 40, 10, 40, 30, 30, 40, 10, 40, 0, 30, 0, 10), Back: 7, Front: 8}
}

// with returns u after this change.
func with(u api.Unit, change func(*api.Unit)) api.Unit {
	u.Shape = slices.Clone(u.Shape)
	change(&u)
	return u
}

func shaped(u api.Unit, coordinates ...int) api.Unit {
	u.Shape = of(coordinates...)
	return u
}

func between(u api.Unit, back, front int) api.Unit {
	u.Shape, u.Back, u.Front = slices.Clone(u.Shape), back, front
	return u
}

// hull returns the corners of the smallest convex polygon around the places of l, counterclockwise; fewer than three if they are on a line.
func hull(l []api.Place) []api.Place {
	l = slices.Clone(l)
	slices.SortFunc(l, func(a, b api.Place) int { return (a.X-b.X)*100 + a.Y - b.Y })
	half := func(l []api.Place) []api.Place {
		var h []api.Place
		for _, p := range l {
			for len(h) > 1 && turn(h[len(h)-2], h[len(h)-1], p) <= 0 {
				h = h[:len(h)-1]
			}
			h = append(h, p)
		}
		return h[:len(h)-1]
	}
	l = slices.Compact(l)
	if len(l) < 3 {
		return l
	}
	below := half(l)
	slices.Reverse(l)
	return append(below, half(l)...)
}

// turn returns the turn of a, b and c.
func turn(a, b, c api.Place) int { return (b.X-a.X)*(c.Y-a.Y) - (b.Y-a.Y)*(c.X-a.X) }

func rotated(l []api.Place, n int) []api.Place { return slices.Concat(l[n:], l[:n]) }

// shape returns a valid polygon whose corners are not further from low than span, and not beyond the map.
func shape(r *rand.Rand, low api.Place, span int) []api.Place {
	for {
		var l []api.Place
		for range 3 + r.IntN(20) {
			l = append(l, at(min(low.X+r.IntN(span+1), api.MaxCoord), min(low.Y+r.IntN(span+1), api.MaxCoord)))
		}
		if r.IntN(3) == 0 {
			l = append(l, low, at(min(low.X+span, api.MaxCoord), low.Y))
		}
		l = hull(l)
		for len(l) > api.MaxSides {
			i := r.IntN(len(l))
			l = slices.Delete(l, i, i+1)
		}
		if len(l) > 2 {
			return rotated(l, r.IntN(len(l)))
		}
	}
}

// made returns a valid unit of this shape; its other numbers are random.
func made(r *rand.Rand, shape []api.Place) api.Unit {
	back := r.IntN(api.MaxDepth)
	return api.Unit{ID: r.IntN(100), Kind: 1 + r.IntN(8), Material: r.IntN(8), Shape: shape, Back: back, Front: back + 1 + r.IntN(api.MaxDepth-back)}
}

// some returns a valid unit of any size anywhere on the map.
func some(r *rand.Rand) api.Unit {
	span := []int{1, 2, 3, 5, 10, 20, 40}[r.IntN(7)]
	low := at(r.IntN(api.MaxCoord+1-span), r.IntN(api.MaxCoord+1-span))
	if r.IntN(2) == 0 {
		low.Y = 0
	}
	return made(r, shape(r, low, span))
}

// pair returns two valid units that are close to each other: they overlap, touch or are apart.
func pair(r *rand.Rand) (api.Unit, api.Unit) {
	low, span := at(r.IntN(30), r.IntN(30)), []int{1, 2, 3, 4, 6, 10}[r.IntN(6)]
	a := made(r, shape(r, low, span))
	for {
		b := made(r, shape(r, at(low.X+r.IntN(span+1), low.Y+r.IntN(span+1)), span))
		if r.IntN(2) == 0 {
			return a, b
		}
		// With an edge of a, a corner of b on the other side of it makes a triangle that touches a there.
		i, c := r.IntN(len(a.Shape)), b.Shape[0]
		p, q := a.Shape[i], a.Shape[(i+1)%len(a.Shape)]
		if turn(p, q, c) >= 0 {
			continue
		}
		b.Shape = []api.Place{q, p, c}
		// Moved by a part of the edge, it touches only a part of it, or only an end.
		if moved, err := unit.Move(b, (q.X-p.X)/2, (q.Y-p.Y)/2); err == api.OK && r.IntN(2) == 0 {
			return a, moved
		}
		return a, b
	}
}

// extremes returns numbers that are far away from all limits.
func extremes() []int {
	return []int{-1, -2, math.MinInt, math.MinInt + 1, math.MaxInt, math.MaxInt - 1, math.MinInt32, math.MaxInt32, 1 << 32, -1 << 32, 1 << 62, -1 << 62, 1<<32 + 1, 1<<62 + 1, 256, -256, 1 << 16}
}

// invalid returns units that are not valid, each of them for one reason.
func invalid() []api.Unit {
	l := []api.Unit{
		{},
		with(stone(), func(u *api.Unit) { u.ID = 100 }),
		with(stone(), func(u *api.Unit) { u.Kind = 0 }),
		with(stone(), func(u *api.Unit) { u.Kind = 9 }),
		with(stone(), func(u *api.Unit) { u.Material = 8 }),
		between(stone(), 0, 9), between(stone(), 2, 2), between(stone(), 0, 0), between(stone(), 8, 8), between(stone(), 3, 2), between(stone(), 8, 9), between(stone(), 8, 0), between(stone(), -1, 0),
		shaped(stone()), shaped(stone(), 0, 0, 4, 0), shaped(stone(), 0, 0, 0, 4, 4, 4, 4, 0), shaped(stone(), 0, 0, 4, 0, 8, 0, 8, 4), shaped(stone(), 0, 0, 4, 0, 1, 1, 0, 4), shaped(stone(), 0, 0, 0, 0, 4, 0, 4, 4),
		shaped(stone(), 0, 0, 41, 0, 4, 4), shaped(stone(), 0, -1, 4, 0, 4, 4), shaped(stone(), 10, 0, 20, 0, 30, 5, 35, 15, 35, 25, 30, 35, 20, 40, 10, 35, 5, 15),
		with(stone(), func(u *api.Unit) { u.Shape = slices.Repeat(u.Shape, 5000) }),
	}
	for _, n := range extremes() {
		for _, change := range []func(*api.Unit){
			func(u *api.Unit) { u.ID = n }, func(u *api.Unit) { u.Kind = n }, func(u *api.Unit) { u.Material = n }, func(u *api.Unit) { u.Front = n }, func(u *api.Unit) { u.Back = n },
			func(u *api.Unit) { u.Back, u.Front = n, n+1 }, func(u *api.Unit) { u.Back, u.Front = n-1, n },
			func(u *api.Unit) { u.Shape[2].X = n }, func(u *api.Unit) { u.Shape[3].Y = n }, func(u *api.Unit) { u.Shape[0] = at(n, n) },
		} {
			l = append(l, with(stone(), change))
		}
	}
	return l
}

// The functions in this part say the definitions of the chapter again.

// densities has the densities of the materials.
func densities() []int { return []int{9, 8, 7, 6, 3, 5, 8, 10} }

// weights returns twice the volume of u, and six times its weight and moment, as sums over triangles.
func weights(u api.Unit) (volume, weight, moment int) {
	for d := u.Back; d < u.Front; d++ {
		for i := 2; i < len(u.Shape); i++ {
			a, b, c := u.Shape[0], u.Shape[i-1], u.Shape[i]
			area := turn(a, b, c)
			volume += area
			weight += 3 * area * densities()[u.Material]
			moment += area * (a.X + b.X + c.X) * densities()[u.Material]
		}
	}
	return volume, weight, moment
}

// depths returns the depths that a and b both fill, each one by its lesser end.
func depths(a, b api.Unit) []int {
	var l []int
	for d := range api.MaxDepth {
		if a.Back <= d && d < a.Front && b.Back <= d && d < b.Front {
			l = append(l, d)
		}
	}
	return l
}

// encoding returns the encoding of u.
func encoding(u api.Unit) string {
	l := []int{u.ID, u.Kind, u.Material, u.Back, u.Front, len(u.Shape)}
	for _, c := range u.Shape {
		l = append(l, c.X, c.Y)
	}
	return code(l...)
}

// code returns the concatenation of the encodings of l.
func code(l ...int) string {
	var s strings.Builder
	for _, n := range l {
		e, err := wire.PutInt(n)
		if err != api.OK {
			panic(n)
		}
		s.WriteString(e)
	}
	return s.String()
}

// faces returns the faces of a unit with these sides.
func faces(id int, sides ...int) []api.Face {
	var l []api.Face
	for _, side := range sides {
		l = append(l, api.Face{Unit: id, Side: side})
	}
	return l
}

// The functions in this part check what a call returns.

func same(a, b api.Unit) bool {
	return slices.Equal(a.Shape, b.Shape) && a.ID == b.ID && a.Kind == b.Kind && a.Material == b.Material && a.Back == b.Back && a.Front == b.Front
}

func isZero(u api.Unit) bool { return same(u, api.Unit{}) }

func checkWeights(t *testing.T, u api.Unit, volume, weight, moment int) {
	t.Helper()
	if v, w, m := unit.Volume2(u), unit.Weight6(u), unit.Moment6(u); v != volume || w != weight || m != moment {
		t.Fatalf("Volume2, Weight6 and Moment6 of %v are %d, %d, %d; want %d, %d, %d", u, v, w, m, volume, weight, moment)
	}
}

func checkTouch(t *testing.T, a, b api.Unit, want api.Contact) {
	t.Helper()
	if got, found := unit.Touch(a, b); got != want || !found {
		t.Fatalf("Touch(%v, %v) = %v, %t; want %v", a, b, got, found, want)
	}
}

func checkNoTouch(t *testing.T, a, b api.Unit) {
	t.Helper()
	if got, found := unit.Touch(a, b); got != (api.Contact{}) || found {
		t.Fatalf("Touch(%v, %v) = %v, %t; want none", a, b, got, found)
	}
}

func checkOverlap(t *testing.T, a, b api.Unit, want bool) {
	t.Helper()
	if got := unit.Overlap(a, b); got != want {
		t.Fatalf("Overlap(%v, %v) = %t", a, b, got)
	}
}

func checkStands(t *testing.T, u api.Unit, want api.Contact) {
	t.Helper()
	if got, found := unit.Stands(u); got != want || !found {
		t.Fatalf("Stands(%v) = %v, %t; want %v", u, got, found, want)
	}
}

func checkFloats(t *testing.T, u api.Unit) {
	t.Helper()
	if got, found := unit.Stands(u); got != (api.Contact{}) || found {
		t.Fatalf("Stands(%v) = %v, %t; want none", u, got, found)
	}
}

func checkMove(t *testing.T, u api.Unit, dx, dy int, want api.Unit) {
	t.Helper()
	if got, err := unit.Move(u, dx, dy); !same(got, want) || err != api.OK {
		t.Fatalf("Move(%v, %d, %d) = %v, %d; want %v", u, dx, dy, got, err, want)
	}
}

func checkNoMove(t *testing.T, u api.Unit, dx, dy int) {
	t.Helper()
	if got, err := unit.Move(u, dx, dy); !isZero(got) || err != api.ErrUnit {
		t.Fatalf("Move(%v, %d, %d) = %v, %d; want ErrUnit", u, dx, dy, got, err)
	}
}

func checkCode(t *testing.T, u api.Unit, s string) {
	t.Helper()
	if got, err := unit.Encode(u); got != s || err != api.OK {
		t.Fatalf("Encode(%v) = %q, %d; want %q", u, got, err, s)
	}
	if got, err := unit.Decode(s); !same(got, u) || err != api.OK {
		t.Fatalf("Decode(%q) = %v, %d; want %v", s, got, err, u)
	}
}

func checkNoUnit(t *testing.T, s string) {
	t.Helper()
	if got, err := unit.Decode(s); !isZero(got) || err != api.ErrUnit {
		t.Fatalf("Decode(%.100q) = %v, %d; want ErrUnit", s, got, err)
	}
}

// P8.1: Valid

func TestValid(t *testing.T) {
	for _, u := range []api.Unit{stone(), brick(), greatest(), octagon(), between(stone(), 0, 8), between(stone(), 0, 1), between(stone(), 7, 8), shaped(stone(), 0, 0, 1, 0, 0, 1)} {
		if !unit.Valid(u) {
			t.Errorf("Valid(%v) = false", u)
		}
	}
	for _, u := range invalid() {
		if unit.Valid(u) {
			t.Errorf("Valid(%.200v) = true", u)
		}
	}
}

// Each number is tried with its neighbours beyond the limits, while all others are valid.
func TestValidAtTheLimits(t *testing.T) {
	for n := -300; n <= 300; n++ {
		for _, c := range []struct {
			change func(*api.Unit)
			want   bool
		}{
			{func(u *api.Unit) { u.ID = n }, 0 <= n && n <= 99},
			{func(u *api.Unit) { u.Kind = n }, 1 <= n && n <= 8},
			{func(u *api.Unit) { u.Material = n }, 0 <= n && n <= 7},
			{func(u *api.Unit) { u.Back = n }, 0 <= n && n <= 1},
			{func(u *api.Unit) { u.Front = n }, 1 <= n && n <= 8},
			{func(u *api.Unit) { u.Back, u.Front = n, n+1 }, 0 <= n && n <= 7},
			{func(u *api.Unit) { u.Shape[2] = at(n, n) }, 3 <= n && n <= 40},
		} {
			if u := with(stone(), c.change); unit.Valid(u) != c.want {
				t.Errorf("Valid(%v) = %t", u, !c.want)
			}
		}
	}
	for back := -3; back <= 11; back++ {
		for front := -3; front <= 11; front++ {
			if got := unit.Valid(between(brick(), back, front)); got != (0 <= back && back < front && front <= 8) {
				t.Errorf("with the depths from %d to %d, Valid is %t", back, front, got)
			}
		}
	}
}

func TestValidOfManyShapes(t *testing.T) {
	r := rand.New(rand.NewPCG(8, 1))
	valid := 0
	for range 20000 {
		u := some(r)
		if r.IntN(2) == 0 {
			u.Shape[r.IntN(len(u.Shape))] = at(r.IntN(43)-1, r.IntN(43)-1)
		}
		want := plane.Valid(u.Shape)
		if unit.Valid(u) != want {
			t.Fatalf("Valid(%v) = %t", u, !want)
		}
		if want {
			valid++
		}
	}
	if valid < 10000 || valid > 19000 {
		t.Errorf("%d of 20000 are valid", valid)
	}
}

// P8.1: Stuff

func TestStuff(t *testing.T) {
	for material, row := range [][5]int{{9, 3, 9, 1, 0}, {8, 3, 6, 4, 1}, {7, 3, 5, 5, 1}, {6, 3, 4, 6, 3}, {3, 2, 5, 3, 0}, {5, 2, 2, 7, 1}, {8, 3, 8, 1, 4}, {10, 1, 9, 0, 0}} {
		want := api.Stuff{Density: row[0], Grip: row[1], Strength: row[2], Pores: row[3], Salts: row[4]}
		if got, err := unit.Stuff(material); got != want || err != api.OK {
			t.Errorf("Stuff(%d) = %v, %d; want %v", material, got, err, want)
		}
	}
	for _, material := range append(extremes(), 8, 9, 10) {
		if got, err := unit.Stuff(material); got != (api.Stuff{}) || err != api.ErrUnit {
			t.Errorf("Stuff(%d) = %v, %d; want ErrUnit", material, got, err)
		}
	}
}

// P8.1: Faces

func TestFaces(t *testing.T) {
	want := faces(3, 0, 1, 2, 3, -1, -2)
	if got := unit.Faces(stone()); !slices.Equal(got, want) {
		t.Errorf("Faces(%v) = %v; want %v", stone(), got, want)
	}
	shape := octagon().Shape
	for n := 3; n <= 8; n++ {
		for _, id := range []int{0, 1, 42, 99} {
			u := with(octagon(), func(u *api.Unit) { u.ID, u.Shape = id, shape[:n] })
			want := append(faces(id, 0, 1, 2, 3, 4, 5, 6, 7)[:n], faces(id, -1, -2)...)
			if got := unit.Faces(u); !slices.Equal(got, want) {
				t.Errorf("Faces(%v) = %v; want %v", u, got, want)
			}
		}
	}
	for _, u := range invalid() {
		if got := unit.Faces(u); len(got) != 0 {
			t.Errorf("Faces(%.200v) = %v; want none", u, got)
		}
	}
}

// P8.1: Volume2, Weight6 and Moment6

func TestWeightsOfExamples(t *testing.T) {
	checkWeights(t, stone(), 64, 1728, 3456)
	checkWeights(t, brick(), 96, 1728, 10368)
	checkWeights(t, greatest(), 25600, 768000, 15360000)
	checkWeights(t, octagon(), 2800, 67200, 1344000)
	checkWeights(t, api.Unit{ID: 1, Kind: 4, Material: 4, Shape: of(0, 0, 6, 0, 0, 4), Back: 3, Front: 6}, 72, 648, 1296)
	checkWeights(t, api.Unit{ID: 1, Kind: 5, Material: 5, Shape: of(0, 0, 1, 0, 0, 1), Back: 7, Front: 8}, 1, 15, 5)
}

func TestWeightsOfAllMaterials(t *testing.T) {
	for material, density := range densities() {
		for back := range api.MaxDepth {
			for front := back + 1; front <= api.MaxDepth; front++ {
				u := with(between(brick(), back, front), func(u *api.Unit) { u.Material = material })
				n := front - back
				checkWeights(t, u, 32*n, 96*n*density, 576*n*density)
			}
		}
	}
}

func TestWeightsOfManyUnits(t *testing.T) {
	r := rand.New(rand.NewPCG(8, 2))
	for range 20000 {
		u := some(r)
		volume, weight, moment := weights(u)
		checkWeights(t, u, volume, weight, moment)
	}
}

func TestWeightsOfInvalidUnits(t *testing.T) {
	for _, u := range invalid() {
		checkWeights(t, u, 0, 0, 0)
	}
}

// P8.1: Overlap and Touch

func TestPairsOfExamples(t *testing.T) {
	seam := api.Seam{P: at(4, 2), Q: at(4, 4)}
	checkTouch(t, stone(), brick(), api.Contact{A: 3, B: 5, Seam: seam, Back: 1, Front: 2})
	checkTouch(t, brick(), stone(), api.Contact{A: 5, B: 3, Seam: api.Seam{P: at(4, 4), Q: at(4, 2)}, Back: 1, Front: 2})
	checkOverlap(t, stone(), brick(), false)
	checkNoTouch(t, stone(), between(brick(), 2, 4))
	checkNoTouch(t, between(brick(), 2, 4), stone())
	checkOverlap(t, stone(), stone(), true)
	checkNoTouch(t, stone(), stone())
	across := shaped(brick(), 3, 3, 7, 3, 3, 7)
	checkOverlap(t, stone(), across, true)
	checkOverlap(t, stone(), between(across, 2, 4), false)
	checkNoTouch(t, stone(), across)
	// They have only one place in common, or none.
	for _, u := range []api.Unit{shaped(brick(), 4, 4, 8, 4, 8, 8), shaped(brick(), 5, 0, 9, 0, 9, 9)} {
		checkOverlap(t, stone(), u, false)
		checkNoTouch(t, stone(), u)
		checkNoTouch(t, u, stone())
	}
	// The number of a unit does not matter, whatever it is.
	checkTouch(t, stone(), with(brick(), func(u *api.Unit) { u.ID = 3 }), api.Contact{A: 3, B: 3, Seam: seam, Back: 1, Front: 2})
}

// All depths of two units are tried, with shapes that overlap, touch or are apart.
func TestPairsOfAllDepths(t *testing.T) {
	across := shaped(brick(), 3, 3, 7, 3, 3, 7)
	apart := shaped(brick(), 6, 0, 9, 0, 9, 9)
	for i := range 9 * 9 * 9 * 9 {
		backA, frontA, backB, frontB := i%9, i/9%9, i/81%9, i/729
		if backA >= frontA || backB >= frontB {
			continue
		}
		a := between(stone(), backA, frontA)
		l := depths(a, between(brick(), backB, frontB))
		checkOverlap(t, a, between(across, backB, frontB), len(l) > 0)
		checkOverlap(t, a, between(brick(), backB, frontB), false)
		checkOverlap(t, a, between(apart, backB, frontB), false)
		checkNoTouch(t, a, between(across, backB, frontB))
		checkNoTouch(t, a, between(apart, backB, frontB))
		if len(l) == 0 {
			checkNoTouch(t, a, between(brick(), backB, frontB))
			continue
		}
		want := api.Contact{A: 3, B: 5, Seam: api.Seam{P: at(4, 2), Q: at(4, 4)}, Back: l[0], Front: l[len(l)-1] + 1}
		checkTouch(t, a, between(brick(), backB, frontB), want)
	}
}

func TestManyPairs(t *testing.T) {
	r := rand.New(rand.NewPCG(8, 3))
	overlapping, touching, rest := 0, 0, 0
	for range 30000 {
		a, b := pair(r)
		l := depths(a, b)
		checkOverlap(t, a, b, len(l) > 0 && plane.Overlap(a.Shape, b.Shape))
		seam, found := plane.Seam(a.Shape, b.Shape)
		switch {
		case len(l) > 0 && found:
			touching++
			checkTouch(t, a, b, api.Contact{A: a.ID, B: b.ID, Seam: seam, Back: l[0], Front: l[len(l)-1] + 1})
		default:
			checkNoTouch(t, a, b)
			rest++
			if unit.Overlap(a, b) {
				overlapping++
			}
		}
	}
	if overlapping < 3000 || touching < 3000 || rest-overlapping < 3000 {
		t.Errorf("%d overlap, %d touch, %d do neither", overlapping, touching, rest-overlapping)
	}
}

func TestPairsWithInvalidUnits(t *testing.T) {
	across := shaped(brick(), 3, 3, 7, 3, 3, 7)
	for _, u := range invalid() {
		for _, valid := range []api.Unit{stone(), brick(), across, greatest()} {
			checkOverlap(t, u, valid, false)
			checkOverlap(t, valid, u, false)
			checkNoTouch(t, u, valid)
			checkNoTouch(t, valid, u)
		}
		checkOverlap(t, u, u, false)
		checkNoTouch(t, u, u)
	}
}

// Units that would touch or overlap are not valid for one reason.
func TestPairsThatWouldTouch(t *testing.T) {
	for _, change := range []func(*api.Unit){
		func(u *api.Unit) { u.ID = 100 }, func(u *api.Unit) { u.ID = -1 }, func(u *api.Unit) { u.Kind = 0 }, func(u *api.Unit) { u.Kind = 9 },
		func(u *api.Unit) { u.Material = -1 }, func(u *api.Unit) { u.Material = 8 }, func(u *api.Unit) { u.Back = -1 }, func(u *api.Unit) { u.Front = 9 },
	} {
		for _, other := range []api.Unit{brick(), stone()} {
			u := with(stone(), change)
			checkOverlap(t, u, other, false)
			checkOverlap(t, other, u, false)
			checkNoTouch(t, u, other)
			checkNoTouch(t, other, u)
		}
	}
}

// P8.1: Stands

func TestStandsExamples(t *testing.T) {
	checkStands(t, stone(), api.Contact{A: 3, B: -1, Seam: api.Seam{P: at(0, 0), Q: at(4, 0)}, Back: 0, Front: 2})
	checkStands(t, greatest(), api.Contact{A: 99, B: -1, Seam: api.Seam{P: at(0, 0), Q: at(40, 0)}, Back: 0, Front: 8})
	checkStands(t, octagon(), api.Contact{A: 0, B: -1, Seam: api.Seam{P: at(10, 0), Q: at(30, 0)}, Back: 7, Front: 8})
	checkFloats(t, brick())
	// Only one corner is on the ground.
	checkFloats(t, shaped(stone(), 4, 0, 8, 4, 4, 8, 0, 4))
	checkFloats(t, shaped(stone(), 0, 0, 4, 1, 0, 4))
	// An edge is on the wall at the left, but none on the ground.
	checkFloats(t, shaped(stone(), 0, 1, 4, 2, 0, 9))
}

// Whichever corner is the first one, the contact goes to the right.
func TestStandsFromAnyCorner(t *testing.T) {
	for _, u := range []api.Unit{stone(), octagon(), shaped(stone(), 7, 0, 9, 0, 3, 1), shaped(stone(), 1, 0, 2, 0, 40, 40)} {
		want, found := unit.Stands(u)
		if !found || want.Seam.P.X >= want.Seam.Q.X {
			t.Fatalf("Stands(%v) = %v, %t", u, want, found)
		}
		for i := range u.Shape {
			turned := with(u, func(u *api.Unit) { u.Shape = rotated(u.Shape, i) })
			checkStands(t, turned, want)
		}
	}
}

func TestStandsOfManyUnits(t *testing.T) {
	r := rand.New(rand.NewPCG(8, 4))
	standing := 0
	for range 20000 {
		u := some(r)
		var low []int
		for _, c := range u.Shape {
			if c.Y == 0 {
				low = append(low, c.X)
			}
		}
		if len(low) != 2 {
			checkFloats(t, u)
			continue
		}
		standing++
		checkStands(t, u, api.Contact{A: u.ID, B: -1, Seam: api.Seam{P: at(min(low[0], low[1]), 0), Q: at(max(low[0], low[1]), 0)}, Back: u.Back, Front: u.Front})
	}
	if standing < 4000 || standing > 16000 {
		t.Errorf("%d of 20000 stand on the ground", standing)
	}
}

func TestStandsOfInvalidUnits(t *testing.T) {
	for _, u := range invalid() {
		checkFloats(t, u)
	}
}

// P8.1: Move

func TestMoveExamples(t *testing.T) {
	checkMove(t, stone(), 0, 0, stone())
	checkMove(t, stone(), 3, 5, shaped(stone(), 3, 5, 7, 5, 7, 9, 3, 9))
	checkMove(t, brick(), -4, -2, shaped(brick(), 0, 0, 4, 0, 4, 4, 0, 4))
	checkMove(t, stone(), 36, 36, shaped(stone(), 36, 36, 40, 36, 40, 40, 36, 40))
	checkMove(t, greatest(), 0, 0, greatest())
}

func TestMoveRefused(t *testing.T) {
	for _, d := range append(extremes(), 37, 41) {
		checkNoMove(t, stone(), d, 0)
		checkNoMove(t, stone(), 0, d)
		checkNoMove(t, stone(), d, d)
		checkNoMove(t, greatest(), d, -d)
	}
	for _, u := range invalid() {
		checkNoMove(t, u, 0, 0)
		checkNoMove(t, u, 1, 1)
	}
}

func TestMoveOfManyUnits(t *testing.T) {
	r := rand.New(rand.NewPCG(8, 5))
	moved := 0
	for range 20000 {
		u, dx, dy := some(r), r.IntN(41)-20, r.IntN(41)-20
		want := with(u, func(u *api.Unit) {
			for i := range u.Shape {
				u.Shape[i] = at(u.Shape[i].X+dx, u.Shape[i].Y+dy)
			}
		})
		if !unit.Valid(want) {
			checkNoMove(t, u, dx, dy)
			continue
		}
		moved++
		checkMove(t, u, dx, dy, want)
	}
	if moved < 3000 || moved > 17000 {
		t.Errorf("%d of 20000 were moved", moved)
	}
}

// P8.1: Encode and Decode

func TestCodeOfExamples(t *testing.T) {
	checkCode(t, stone(), "\x06\x04\x00\x00\x04\x08"+"\x00\x00\x08\x00\x08\x08\x00\x08")
	checkCode(t, brick(), "\x0a\x06\x06\x02\x08\x08"+"\x08\x04\x10\x04\x10\x0c\x08\x0c")
	checkCode(t, greatest(), "\xc6\x01\x10\x0e\x00\x10\x08"+"\x00\x00\x50\x00\x50\x50\x00\x50")
	checkCode(t, shaped(stone(), 1, 2, 3, 4, 1, 5), "\x06\x04\x00\x00\x04\x06"+"\x02\x04\x06\x08\x02\x0a")
	checkCode(t, octagon(), encoding(octagon()))
	for id := range 100 {
		u := with(octagon(), func(u *api.Unit) { u.ID = id })
		checkCode(t, u, encoding(u))
	}
}

func TestEncodeRefused(t *testing.T) {
	for _, u := range invalid() {
		if s, err := unit.Encode(u); s != "" || err != api.ErrUnit {
			t.Errorf("Encode(%.200v) = %q, %d; want ErrUnit", u, s, err)
		}
	}
}

// Whatever numbers of an invalid unit can be encoded are not accepted.
func TestDecodeOfInvalidUnits(t *testing.T) {
	encodable := func(u api.Unit) bool {
		l := []int{u.ID, u.Kind, u.Material, u.Back, u.Front}
		for _, c := range u.Shape {
			l = append(l, c.X, c.Y)
		}
		return slices.Min(l) >= -api.MaxInt && slices.Max(l) <= api.MaxInt
	}
	tried := 0
	for _, u := range invalid() {
		if encodable(u) {
			tried++
			checkNoUnit(t, encoding(u))
		}
	}
	if tried < 50 {
		t.Errorf("only %d were tried", tried)
	}
}

func TestDecodeRefused(t *testing.T) {
	head, square := code(3, 2, 0, 0, 2), code(0, 0, 4, 0, 4, 4, 0, 4)
	if u, err := unit.Decode(head + code(4) + square); err != api.OK || !same(u, stone()) {
		t.Fatalf("the parts of an encoding are not those of a unit: %v, %d", u, err)
	}
	for _, s := range []string{
		"", "\x00", head, square, "\x80", strings.Repeat("\x00", 100), strings.Repeat("\x80", 100), strings.Repeat("\xff", 1000), "putlog",
		// the number of corners
		head + code(3) + square, head + code(5) + square, head + code(0), head + code(0) + square, head + code(-4) + square, head + code(-1), head + code(api.MaxInt) + square, head + code(-api.MaxInt) + square, head + code(1<<32+4) + square, head + code(1<<32), head + code(1, 0, 0), head + code(2, 0, 0, 4, 0),
		head + code(9, 10, 0, 20, 0, 30, 5, 35, 15, 35, 25, 30, 35, 20, 40, 10, 35, 5, 15),
		// something before or after it
		head + code(4) + square + "\x00", "\x00" + head + code(4) + square, head + code(4) + square + "\x80", strings.Repeat(head+code(4)+square, 2),
		// superfluous groups, and a number that is too great
		"\x86\x00" + code(2, 0, 0, 2, 4) + square, head + "\x88\x00" + square, head + code(4) + square[:7] + "\x88\x00", head + code(4) + square[:7] + "\xff\xff\xff\xff\xff\xff\xff\xff\x7f",
		// numbers that are not those of a unit
		code(100, 2, 0, 0, 2, 4) + square, code(-1, 2, 0, 0, 2, 4) + square, code(3, 0, 0, 0, 2, 4) + square, code(3, 9, 0, 0, 2, 4) + square, code(3, 2, -1, 0, 2, 4) + square, code(3, 2, 8, 0, 2, 4) + square,
		code(3, 2, 0, -1, 2, 4) + square, code(3, 2, 0, 2, 2, 4) + square, code(3, 2, 0, 3, 2, 4) + square, code(3, 2, 0, 0, 9, 4) + square, code(3, 2, 0, 0, 0, 4) + square,
		head + code(4, 0, 0, 0, 4, 4, 4, 4, 0), head + code(4, 0, 0, 4, 0, 4, 41, 0, 4), head + code(4, 0, 0, 4, -1, 4, 4, 0, 4), head + code(3, 0, 0, 2, 2, 4, 4),
		head + code(1<<20) + strings.Repeat(square, 1<<18),
	} {
		checkNoUnit(t, s)
	}
}

// R3

// padded returns a unit like u, whose list of corners has memory behind its end.
func padded(u api.Unit) api.Unit {
	u.Shape = append(slices.Clone(u.Shape), at(17, 18), at(19, 20))[:len(u.Shape)]
	return u
}

func TestArgumentsAreNotModified(t *testing.T) {
	for _, u := range []api.Unit{stone(), brick(), octagon(), with(stone(), func(u *api.Unit) { u.Shape = rotated(u.Shape, 2) }), shaped(stone(), 0, 0, 0, 4, 4, 4), with(stone(), func(u *api.Unit) { u.ID = 100 })} {
		a, b := padded(u), padded(brick())
		before, other := slices.Clone(a.Shape[:len(a.Shape)+2]), slices.Clone(b.Shape[:len(b.Shape)+2])
		unit.Valid(a)
		unit.Faces(a)
		unit.Volume2(a)
		unit.Weight6(a)
		unit.Moment6(a)
		unit.Overlap(a, b)
		unit.Overlap(b, a)
		unit.Touch(a, b)
		unit.Touch(b, a)
		unit.Stands(a)
		unit.Move(a, 1, 1)
		unit.Encode(a)
		if !slices.Equal(a.Shape[:len(a.Shape)+2], before) || !slices.Equal(b.Shape[:len(b.Shape)+2], other) {
			t.Errorf("the corners of %v were changed", u)
		}
	}
}

// overwrite changes all that l has memory for.
func overwrite[T any](l []T, value T) {
	l = l[:cap(l)]
	for i := range l {
		l[i] = value
	}
}

func TestResultsAreNewMemory(t *testing.T) {
	u := padded(stone())
	for _, d := range []int{0, 1} {
		moved, _ := unit.Move(u, d, d)
		overwrite(moved.Shape, at(-7, -7))
	}
	if !slices.Equal(u.Shape[:6], append(stone().Shape, at(17, 18), at(19, 20))) {
		t.Errorf("Move shares memory: %v", u.Shape[:6])
	}
	overwrite(unit.Faces(u), api.Face{Unit: -7, Side: -7})
	if got := unit.Faces(u); !slices.Equal(got, faces(3, 0, 1, 2, 3, -1, -2)) {
		t.Errorf("after a result was overwritten, Faces(%v) = %v", u, got)
	}
	s := encoding(stone())
	first, _ := unit.Decode(s)
	overwrite(first.Shape, at(-7, -7))
	checkCode(t, stone(), s)
}

// A result depends on the arguments only, not on what was called before.
func TestNoStateIsKept(t *testing.T) {
	for range 3 {
		checkNoUnit(t, encoding(stone())+"\x00")
		checkCode(t, stone(), encoding(stone()))
		checkNoMove(t, stone(), 41, 0)
		checkMove(t, stone(), 0, 0, stone())
	}
	if a, b := unit.Faces(stone()), unit.Faces(stone()); !reflect.DeepEqual(a, b) {
		t.Errorf("Faces returned %v, and then %v", a, b)
	}
}

package plane

import (
	"iter"
	"slices"

	"putlog/api"
)

// edge is a segment from one place to another one; the polygon of which it is an edge is to the left of it.
type edge struct {
	from api.Place
	to   api.Place
}

// edges yields the edges of l with the indices of the corners where they begin.
func edges(l []api.Place) iter.Seq2[int, edge] {
	return func(yield func(int, edge) bool) {
		for i, p := range l {
			if !yield(i, edge{from: p, to: l[(i+1)%len(l)]}) {
				return
			}
		}
	}
}

// total returns the sum of the parts that the edges of l contribute.
func total(l []api.Place, part func(edge) int) int {
	sum := 0
	for _, e := range edges(l) {
		sum += part(e)
	}
	return sum
}

// turn returns the turn of the ends of e and c.
func (e edge) turn(c api.Place) int {
	return (e.to.X-e.from.X)*(c.Y-e.from.Y) - (e.to.Y-e.from.Y)*(c.X-e.from.X)
}

// leftOf returns the function that reports whether a place is to the left of e.
func leftOf(e edge) func(c api.Place) bool {
	return func(c api.Place) bool { return e.turn(c) > 0 }
}

// cross returns twice the area of the triangle of (0, 0) and the ends of e, negative if they are clockwise.
func cross(e edge) int { return e.from.X*e.to.Y - e.from.Y*e.to.X }

// steps returns the number of places with whole coordinates on e, without one of its ends.
func steps(e edge) int {
	n, rest := e.to.X-e.from.X, e.to.Y-e.from.Y
	for rest != 0 {
		n, rest = rest, n%rest
	}
	return max(n, -n)
}

// onMap reports whether these places are all on the map.
func onMap(l ...api.Place) bool {
	for _, p := range l {
		if min(p.X, p.Y) < 0 || max(p.X, p.Y) > api.MaxCoord {
			return false
		}
	}
	return true
}

// position returns 1 if p is in the interior of the polygon l, 0 if it is on the boundary, and -1 otherwise.
func position(l []api.Place, p api.Place) int {
	least := 1
	for _, e := range edges(l) {
		least = min(least, e.turn(p))
	}
	return max(least, outside)
}

// changed returns the places of l after this change.
func changed(l []api.Place, change func(api.Place) api.Place) []api.Place {
	places := make([]api.Place, len(l))
	for i, p := range l {
		places[i] = change(p)
	}
	return places
}

// run returns the corners of l from i on to k; after the last one follows the first one.
func run(l []api.Place, i, k int) []api.Place {
	if i <= k {
		return slices.Clone(l[i : k+1])
	}
	return slices.Concat(l[i:], l[:k+1])
}

// separating returns the index of the first edge of l to the left of which no corner of the other polygon is, and whether there is one.
func separating(l, other []api.Place) (int, bool) {
	for i, e := range edges(l) {
		if !slices.ContainsFunc(other, leftOf(e)) {
			return i, true
		}
	}
	return 0, false
}

// directed returns the segment s as a seam which has the polygon l to the left of it.
func directed(s edge, l []api.Place) api.Seam {
	if slices.ContainsFunc(l, leftOf(s)) {
		return api.Seam{P: s.from, Q: s.to}
	}
	return api.Seam{P: s.to, Q: s.from}
}

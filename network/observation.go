package network

import (
	"iter"

	"putlog/api"
	"putlog/between"
)

// isPoint reports whether p is a point of c.
func isPoint(c api.Control, p int) bool { return p >= 0 && p < c.Points }

// observable reports whether an observation may have these coordinates and this tolerance.
func observable(x, y, tol int) bool {
	return within(x, api.MaxFar) && within(y, api.MaxFar) && tol >= 0 && tol <= api.MaxErr
}

// within reports whether n is at most bound, whatever its sign.
func within(n, bound int) bool { return -bound <= n && n <= bound }

// network is a valid network, with the origin as one more place from which points are seen.
type network api.Control

// origin returns the number of the origin, which comes after those of the points.
func (n network) origin() int { return n.Points }

// observations ranges over the observations in order, all of them as sights: a fix is one from the origin.
func (n network) observations(yield func(api.Sight) bool) {
	for _, f := range n.Fixes {
		if !yield(api.Sight{From: n.origin(), To: f.Point, DX: f.X, DY: f.Y, Tol: f.Tol}) {
			return
		}
	}
	for _, s := range n.Sights {
		if !yield(s) {
			return
		}
	}
}

// difference is what an observation says of one coordinate: that of the point to, less that of the point from, is by, up to tol.
type difference struct {
	from, to, by, tol int
}

// inX ranges over what the observations say of X, in order.
func (n network) inX(yield func(difference) bool) {
	for s := range n.observations {
		if !yield(difference{from: s.From, to: s.To, by: s.DX, tol: s.Tol}) {
			return
		}
	}
}

// inY ranges over what the observations say of Y, in order.
func (n network) inY(yield func(difference) bool) {
	for s := range n.observations {
		if !yield(difference{from: s.From, to: s.To, by: s.DY, tol: s.Tol}) {
			return
		}
	}
}

// bounds returns the bounds of a coordinate, which is inX or inY: the bounds 2 i and 2 i + 1 are those of the observation i.
func (n network) bounds(coordinate iter.Seq[difference]) api.Between {
	b := api.Between{N: n.Points + 1}
	for d := range coordinate {
		b.Bounds = append(b.Bounds,
			api.Bound{From: d.from, To: d.to, Most: d.by + d.tol},
			api.Bound{From: d.to, To: d.from, Most: d.tol - d.by})
	}
	return b
}

// extent returns the least and the greatest value of a coordinate of q, less that of p, and true; or false if there is a contradiction, or nothing connects p and q.
func (n network) extent(coordinate iter.Seq[difference], p, q int) (int, int, bool) {
	distances, err := between.Close(n.bounds(coordinate))
	if err != api.OK || distances[p][q] == api.Far {
		return 0, 0, false
	}
	return -distances[q][p], distances[p][q], true
}

// apart returns the extents of both coordinates, or ErrNetwork if one of them has none.
func (n network) apart(p, q int) (api.Box, api.Errno) {
	lowX, highX, foundX := n.extent(n.inX, p, q)
	lowY, highY, foundY := n.extent(n.inY, p, q)
	if !foundX || !foundY {
		return api.Box{}, api.ErrNetwork
	}
	return api.Box{LowX: lowX, HighX: highX, LowY: lowY, HighY: highY}, api.OK
}

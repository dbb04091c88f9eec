package network

import (
	"iter"

	"putlog/api"
)

// right is the column of the right sides.
const right = api.MaxPoints + 1

// equations are the normal equations of a coordinate: a row for each point and for the origin, with a column for each of them and for the right side. As the origin stays at 0, neither its row nor its column says anything.
type equations [api.MaxPoints + 1][right + 1]int

// normal returns the equations by which the residuals balance at each point.
func normal(coordinate iter.Seq[difference]) equations {
	var e equations
	for d := range coordinate {
		e[d.to][d.to]++
		e[d.to][d.from]--
		e[d.to][right] += d.by
		e[d.from][d.from]++
		e[d.from][d.to]--
		e[d.from][right] -= d.by
	}
	return e
}

// reduce solves the equations of the points, all of which are tied: it leaves the determinant as the only coefficient of each point, and returns it. Each number on the way is a determinant of rows and columns of the equations, therefore each quotient is exact and each product fits: with at most 28 observations, a determinant of coefficients is at most 6^8, and one with right sides at most 10^12.
func (e *equations) reduce(points int) int {
	last := 1
	for k := range points {
		pivot := e[k][k]
		for i := range points {
			if i != k {
				e.eliminate(i, k, last)
			}
		}
		last = pivot
	}
	return last
}

// eliminate leaves the point k out of the row i; last is the pivot before that of k.
func (e *equations) eliminate(i, k, last int) {
	pivot, factor := e[k][k], e[i][k]
	for j := range e[i] {
		e[i][j] = (pivot*e[i][j] - factor*e[k][j]) / last
	}
}

// positions returns the coordinates of the points, which are all tied, with the least sum of squares: numerators, and their denominator, which is positive.
func (n network) positions(coordinate iter.Seq[difference]) ([]int, int) {
	e := normal(coordinate)
	den := e.reduce(n.Points)
	nums := make([]int, n.Points)
	for p := range nums {
		nums[p] = e[p][right]
	}
	return nums, den
}

// tied reports whether all points are tied.
func (n network) tied() bool {
	var reached [api.MaxPoints + 1]bool
	reached[n.origin()] = true
	// No shortest chain of observations from the origin to a point has more of them than there are points.
	for range n.Points {
		for s := range n.observations {
			if reached[s.From] || reached[s.To] {
				reached[s.From], reached[s.To] = true, true
			}
		}
	}
	for p := range n.Points {
		if !reached[p] {
			return false
		}
	}
	return true
}

// gcd returns the greatest common divisor of all these numbers, of which a is not 0.
func gcd(a int, others ...int) int {
	for _, b := range others {
		for b != 0 {
			a, b = b, a%b
		}
	}
	return max(a, -a)
}

// divided returns the numbers of l, which are all multiples of divisor, divided by it.
func divided(l []int, divisor int) []int {
	quotients := make([]int, len(l))
	for i, n := range l {
		quotients[i] = n / divisor
	}
	return quotients
}

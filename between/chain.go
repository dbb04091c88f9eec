package between

import (
	"iter"
	"slices"

	"putlog/api"
)

// isFor reports whether x is a bound for b.
func isFor(b api.Between, x api.Bound) bool {
	return isVariable(b, x.From) && isVariable(b, x.To) && x.Most >= -api.MaxBound && x.Most <= api.MaxBound
}

// isVariable reports whether v is a variable of b.
func isVariable(b api.Between, v int) bool { return v >= 0 && v < b.N }

// shows reports whether l is a chain of the bounds of b, which is valid, from the From of x to its To, with a sum of at most its Most.
func shows(b api.Between, l []int, x api.Bound) bool {
	if len(l) > api.MaxBounds {
		return false
	}
	at, sum := x.From, 0
	for _, i := range l {
		if i < 0 || i >= len(b.Bounds) || b.Bounds[i].From != at {
			return false
		}
		at = b.Bounds[i].To
		sum += b.Bounds[i].Most
	}
	return at == x.To && sum <= x.Most
}

// tables returns a function that makes tables with n rows of n sums, all of them Far.
func tables(n int) func() [][]int {
	far := slices.Repeat([]int{api.Far}, n)
	return func() [][]int {
		table := make([][]int, n)
		for i := range n {
			table[i] = make([]int, n)
			copy(table[i], far)
		}
		return table
	}
}

// lengths ranges over the lengths of chains, from 0 up to the number of variables: for each one, over the least sum of a chain with just so many bounds from each variable (the row) to each variable, or Far where there is none. Longer chains matter to nobody: they come to a variable twice, so that either the part between is a shorter contradiction, or they are no worse without it.
func lengths(b api.Between) iter.Seq[[][]int] {
	newTable := tables(b.N)
	return func(yield func([][]int) bool) {
		sums := newTable()
		for v := range b.N {
			sums[v][v] = 0
		}
		for range b.N + 1 {
			if !yield(sums) {
				return
			}
			longer := newTable()
			for _, x := range b.Bounds {
				lead(longer[x.From], sums[x.To], x.Most)
			}
			sums = longer
		}
	}
}

// lead lowers the sums of a row to those of chains that begin with a bound, and go on with the sums of the row rest.
func lead(row []int, rest []int, most int) {
	for k, sum := range rest {
		if sum != api.Far {
			row[k] = min(row[k], most+sum)
		}
	}
}

// until returns the least sums of all lengths up to the first one whose sums are as wanted, and true; or none and false if there is no such length.
func until(b api.Between, wanted func(sums [][]int) bool) ([][][]int, bool) {
	var all [][][]int
	for sums := range lengths(b) {
		all = append(all, sums)
		if wanted(sums) {
			return all, true
		}
	}
	return nil, false
}

// contradicts reports whether a chain from a variable to itself has a sum of less than 0.
func contradicts(sums [][]int) bool {
	for v, row := range sums {
		if row[v] < 0 {
			return true
		}
	}
	return false
}

// first returns the lexicographically first chain that shows x and has as many bounds as those of the last one of sums, and true; or none and false if there is none. Its choices never have to be taken back: sums says whether there is a way to go on.
func first(b api.Between, sums [][][]int, x api.Bound) ([]int, bool) {
	length := len(sums) - 1
	if sums[length][x.From][x.To] > x.Most {
		return nil, false
	}
	chain := make([]int, length)
	at, most := x.From, x.Most
	for n := range length {
		rest := sums[length-1-n]
		i := slices.IndexFunc(b.Bounds, func(y api.Bound) bool { return y.From == at && y.Most+rest[y.To][x.To] <= most })
		chain[n] = i
		at, most = b.Bounds[i].To, most-b.Bounds[i].Most
	}
	return chain, true
}

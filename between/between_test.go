package between_test

import (
	"iter"
	"math"
	"math/rand/v2"
	"slices"
	"testing"

	"putlog/api"
	"putlog/between"
)

// The functions in this part make arguments.

// bounds returns those for n variables, of which each one is given by From, To and Most.
func bounds(n int, numbers ...int) api.Between {
	b := api.Between{N: n}
	for i := 0; i < len(numbers); i += 3 {
		b.Bounds = append(b.Bounds, bound(numbers[i], numbers[i+1], numbers[i+2]))
	}
	return b
}

func bound(from, to, most int) api.Bound { return api.Bound{From: from, To: to, Most: most} }

// example returns the bounds of the chapter's examples.
func example() api.Between { return bounds(3, 0, 1, 5, 1, 2, -2, 2, 0, 0) }

// ring returns bounds from each of n variables to the next one, and from the last one to the first one.
func ring(n int, most int) api.Between {
	b := api.Between{N: n}
	for v := range n {
		b.Bounds = append(b.Bounds, bound(v, (v+1)%n, most))
	}
	return b
}

// with returns b with these further bounds.
func with(b api.Between, further ...api.Bound) api.Between {
	b.Bounds = slices.Concat(b.Bounds, further)
	return b
}

// without returns b without the bound with this index.
func without(b api.Between, i int) api.Between {
	b.Bounds = slices.Concat(b.Bounds[:i], b.Bounds[i+1:])
	return b
}

// times returns a list that has i so many times.
func times(n int, i int) []int { return slices.Repeat([]int{i}, n) }

// some returns bounds for up to n variables, of which about half contradict each other.
func some(r *rand.Rand, n, count, most int) api.Between {
	b := api.Between{N: 1 + r.IntN(n)}
	for range r.IntN(count + 1) {
		b.Bounds = append(b.Bounds, oneOf(r, b, most))
	}
	return b
}

// oneOf returns a bound for b.
func oneOf(r *rand.Rand, b api.Between, most int) api.Bound {
	return bound(r.IntN(b.N), r.IntN(b.N), r.IntN(2*most+1)-most*r.IntN(3)/2)
}

// kept returns bounds for up to n variables, and a situation that keeps them, some only just.
func kept(r *rand.Rand, n, count, span int) (api.Between, []int) {
	b := api.Between{N: 1 + r.IntN(n)}
	x := make([]int, b.N)
	for v := range x {
		x[v] = r.IntN(span) - r.IntN(span)
	}
	for range r.IntN(count + 1) {
		from, to := r.IntN(b.N), r.IntN(b.N)
		b.Bounds = append(b.Bounds, bound(from, to, x[to]-x[from]+r.IntN(3)*r.IntN(span)))
	}
	return b, x
}

// notValid returns bounds that are not valid, each for another reason.
func notValid() []api.Between {
	l := []api.Between{
		{N: -1}, {N: 17}, {N: math.MinInt}, {N: math.MaxInt},
		{N: 3, Bounds: slices.Repeat([]api.Bound{bound(0, 1, 5)}, 61)},
		bounds(0, 0, 0, 0), bounds(17, 0, 1, 5), bounds(-1, 0, 0, 0),
	}
	for _, x := range notFor(3) {
		l = append(l, bounds(3, x.From, x.To, x.Most), with(example(), x), with(bounds(3, x.From, x.To, x.Most), example().Bounds...))
	}
	return l
}

// notFor returns bounds that are none for n variables.
func notFor(n int) []api.Bound {
	var l []api.Bound
	for _, v := range []int{-1, n, n + 1, 16, 17, math.MinInt, math.MaxInt} {
		l = append(l, bound(v, 0, 5), bound(0, v, 5), bound(v, v, 5))
	}
	for _, most := range []int{1000000001, -1000000001, math.MaxInt, math.MinInt, api.Far, -api.Far} {
		l = append(l, bound(0, 1, most), bound(1, 1, most))
	}
	return l
}

// The functions in this part say the definitions of the chapter again.

// lists ranges over the lists of at most longest numbers below n: the shorter ones first, those of one length in lexicographic order.
func lists(n, longest int) iter.Seq[[]int] {
	return func(yield func([]int) bool) {
		for length := range longest + 1 {
			l := make([]int, length)
			for more := true; more; more = next(l, n) {
				if !yield(slices.Clone(l)) {
					return
				}
			}
			if n == 0 {
				return
			}
		}
	}
}

// next makes l the lexicographically next list of numbers below n, and reports whether there is one.
func next(l []int, n int) bool {
	for i := len(l) - 1; i >= 0; i-- {
		l[i]++
		if l[i] < n {
			return true
		}
		l[i] = 0
	}
	return false
}

// total returns the sum of the chain l between these variables, and whether it is one.
func total(b api.Between, l []int, from, to int) (int, bool) {
	sum := 0
	for n, i := range l {
		if i < 0 || i >= len(b.Bounds) || n > 0 && b.Bounds[l[n-1]].To != b.Bounds[i].From {
			return 0, false
		}
		sum += b.Bounds[i].Most
	}
	if len(l) == 0 {
		return 0, from == to
	}
	return sum, len(l) <= 60 && b.Bounds[l[0]].From == from && b.Bounds[l[len(l)-1]].To == to
}

// isCycle reports whether l is a contradiction of b, which is valid.
func isCycle(b api.Between, l []int) bool {
	for v := range b.N {
		if sum, ok := total(b, l, v, v); ok && sum < 0 {
			return true
		}
	}
	return false
}

// isChain reports whether l shows the bound x for b, which is valid.
func isChain(b api.Between, x api.Bound, l []int) bool {
	sum, ok := total(b, l, x.From, x.To)
	return ok && sum <= x.Most
}

// closed returns the least sums of chains, and whether there is no contradiction: it lets chains go through ever more variables.
func closed(b api.Between) ([][]int, bool) {
	d := make([][]int, b.N)
	for i := range d {
		d[i] = times(b.N, 1<<60)
		d[i][i] = 0
	}
	for _, x := range b.Bounds {
		d[x.From][x.To] = min(d[x.From][x.To], x.Most)
	}
	consistent := true
	for through := range d {
		for i := range d {
			for k := range d {
				if d[i][through] < 1<<60 && d[through][k] < 1<<60 {
					d[i][k] = min(d[i][k], d[i][through]+d[through][k])
				}
			}
		}
		// Sums that go on descending would not stay in their range.
		for i := range d {
			consistent = consistent && d[i][i] >= 0
		}
		if !consistent {
			return nil, false
		}
	}
	return d, true
}

// walk returns the least sum of a chain of just so many bounds from a variable to another one.
func walk(b api.Between, from, to, length int) int {
	at := map[int]int{from: 0}
	for range length {
		after := map[int]int{}
		for _, x := range b.Bounds {
			sum, ok := at[x.From]
			if !ok {
				continue
			}
			if old, ok := after[x.To]; !ok || sum+x.Most < old {
				after[x.To] = sum + x.Most
			}
		}
		at = after
	}
	if sum, ok := at[to]; ok {
		return sum
	}
	return 1 << 60
}

// earlier reports whether a list of this length that comes before l in lexicographic order shows a bound from one variable to another one (or, if from is -1, from any one to itself) with at most most.
func earlier(b api.Between, l []int, from, to, most int) bool {
	at := from
	for n, own := range l {
		for _, x := range b.Bounds[:own] {
			end := to
			if from < 0 && n == 0 {
				at, end = x.From, x.From
			}
			if x.From == at && x.Most+walk(b, x.To, end, len(l)-1-n) <= most {
				return true
			}
		}
		if from < 0 && n == 0 {
			to = b.Bounds[own].From
		}
		at, most = b.Bounds[own].To, most-b.Bounds[own].Most
	}
	return false
}

// keeps reports whether the situation x keeps all bounds of b.
func keeps(b api.Between, x []int) bool {
	return !slices.ContainsFunc(b.Bounds, func(y api.Bound) bool { return x[y.To]-x[y.From] > y.Most })
}

// The functions in this part check what a call returns.

func checkAllowed(t *testing.T, b api.Between, x []int, want bool) {
	t.Helper()
	if between.Allowed(b, x) != want {
		t.Errorf("Allowed(%v, %v) = %v", b, x, !want)
	}
}

func checkClose(t *testing.T, b api.Between, want [][]int) {
	t.Helper()
	got, err := between.Close(b)
	if err != api.OK || !slices.EqualFunc(got, want, slices.Equal[[]int]) {
		t.Errorf("Close(%v) = %v, %v; want %v", b, got, err, want)
	}
}

func checkSolve(t *testing.T, b api.Between, want ...int) {
	t.Helper()
	got, err := between.Solve(b)
	if err != api.OK || !slices.Equal(got, want) {
		t.Errorf("Solve(%v) = %v, %v; want %v", b, got, err, want)
	}
}

// checkNone checks that b has neither distances nor a solution.
func checkNone(t *testing.T, b api.Between) {
	t.Helper()
	if got, err := between.Close(b); err != 90 || len(got) > 0 {
		t.Errorf("Close(%v) = %v, %v", b, got, err)
	}
	if got, err := between.Solve(b); err != 90 || len(got) > 0 {
		t.Errorf("Solve(%v) = %v, %v", b, got, err)
	}
}

func checkCycle(t *testing.T, b api.Between, want ...int) {
	t.Helper()
	got, found := between.Cycle(b)
	if !found || !slices.Equal(got, want) {
		t.Errorf("Cycle(%v) = %v, %v; want %v", b, got, found, want)
	}
	checkIsCycle(t, b, want, true)
	checkNone(t, b)
}

func checkNoCycle(t *testing.T, b api.Between) {
	t.Helper()
	if got, found := between.Cycle(b); found || len(got) > 0 {
		t.Errorf("Cycle(%v) = %v, %v", b, got, found)
	}
}

func checkIsCycle(t *testing.T, b api.Between, l []int, want bool) {
	t.Helper()
	if between.CheckCycle(b, l) != want {
		t.Errorf("CheckCycle(%v, %v) = %v", b, l, !want)
	}
}

func checkImplied(t *testing.T, b api.Between, x api.Bound, want ...int) {
	t.Helper()
	got, found := between.Implied(b, x)
	if !found || !slices.Equal(got, want) {
		t.Errorf("Implied(%v, %v) = %v, %v; want %v", b, x, got, found, want)
	}
	checkIsChain(t, b, x, want, true)
}

func checkNotImplied(t *testing.T, b api.Between, x api.Bound) {
	t.Helper()
	if got, found := between.Implied(b, x); found || len(got) > 0 {
		t.Errorf("Implied(%v, %v) = %v, %v", b, x, got, found)
	}
}

func checkIsChain(t *testing.T, b api.Between, x api.Bound, l []int, want bool) {
	t.Helper()
	if between.CheckChain(b, x, l) != want {
		t.Errorf("CheckChain(%v, %v, %v) = %v", b, x, l, !want)
	}
}

// checkAll compares what all functions say of b, which is valid, with the definitions.
func checkAll(t *testing.T, b api.Between) (consistent bool) {
	t.Helper()
	if !between.Valid(b) {
		t.Errorf("Valid(%v) = false", b)
	}
	want, consistent := closed(b)
	if !consistent {
		checkNone(t, b)
		checkFirstCycle(t, b)
		return false
	}
	checkNoCycle(t, b)
	checkClose(t, b, want)
	least := make([]int, b.N)
	for _, row := range want {
		for k, d := range row {
			least[k] = min(least[k], d)
		}
	}
	checkSolve(t, b, least...)
	return true
}

// checkFirstCycle checks that Cycle returns the first one of the contradictions.
func checkFirstCycle(t *testing.T, b api.Between) {
	t.Helper()
	l, found := between.Cycle(b)
	if !found || !isCycle(b, l) || !between.CheckCycle(b, l) {
		t.Fatalf("Cycle(%v) = %v, %v", b, l, found)
	}
	for v := range b.N {
		for length := range l {
			if walk(b, v, v, length) < 0 {
				t.Errorf("Cycle(%v) = %v, but %d bounds from %d on contradict each other", b, l, length, v)
			}
		}
	}
	if earlier(b, l, -1, 0, -1) {
		t.Errorf("Cycle(%v) = %v, but there is an earlier one", b, l)
	}
}

// checkFirstChain checks that Implied returns the first chain for x, or none if x does not follow from b, which has no contradiction.
func checkFirstChain(t *testing.T, b api.Between, x api.Bound) (follows bool) {
	t.Helper()
	distances, _ := closed(b)
	if distances[x.From][x.To] > x.Most {
		checkNotImplied(t, b, x)
		return false
	}
	l, found := between.Implied(b, x)
	if !found || !isChain(b, x, l) || !between.CheckChain(b, x, l) {
		t.Fatalf("Implied(%v, %v) = %v, %v", b, x, l, found)
	}
	for length := range l {
		if walk(b, x.From, x.To, length) <= x.Most {
			t.Errorf("Implied(%v, %v) = %v, but %d bounds are enough", b, x, l, length)
		}
	}
	if earlier(b, l, x.From, x.To, x.Most) {
		t.Errorf("Implied(%v, %v) = %v, but there is an earlier one", b, x, l)
	}
	return true
}

// P9.1: Valid

func TestValid(t *testing.T) {
	for _, b := range []api.Between{
		{}, {N: 1}, {N: 16}, {N: 3, Bounds: []api.Bound{}}, example(), ring(16, 0), bounds(1, 0, 0, -1), bounds(1, 0, 0, 0),
		bounds(16, 15, 15, 7), bounds(16, 0, 15, 1000000000), bounds(16, 15, 0, -1000000000), bounds(2, 0, 1, 5, 0, 1, 5, 0, 1, 5),
		{N: 3, Bounds: slices.Repeat([]api.Bound{bound(0, 1, 5)}, 60)},
	} {
		if !between.Valid(b) {
			t.Errorf("Valid(%v) = false", b)
		}
	}
	for _, b := range notValid() {
		if between.Valid(b) {
			t.Errorf("Valid(%v) = true", b)
		}
	}
}

func TestNothingFollowsFromBoundsThatAreNotValid(t *testing.T) {
	for _, b := range notValid() {
		checkNone(t, b)
		checkNoCycle(t, b)
		for _, x := range [][]int{nil, {0}, {0, 0, 0}, times(17, 0)} {
			checkAllowed(t, b, x, false)
		}
		for _, l := range [][]int{nil, {0}, {1}, {0, 1, 2}, {1, 2, 3}} {
			checkIsCycle(t, b, l, false)
			for _, x := range []api.Bound{bound(0, 0, 0), bound(0, 2, 3), bound(0, 1, 5)} {
				checkIsChain(t, b, x, l, false)
				checkNotImplied(t, b, x)
			}
		}
		// A contradiction does not count either.
		b.Bounds = slices.Concat(b.Bounds, bounds(1, 0, 0, -1).Bounds)
		checkNoCycle(t, b)
		checkIsCycle(t, b, []int{len(b.Bounds) - 1}, false)
	}
}

// P9.1: Allowed

func TestAllowed(t *testing.T) {
	const most = 1000000000000
	for _, c := range []struct {
		b    api.Between
		x    []int
		want bool
	}{
		{api.Between{}, nil, true}, {api.Between{}, []int{}, true}, {api.Between{}, []int{0}, false},
		{example(), []int{-2, 0, -2}, true}, {example(), []int{0, 5, 3}, true}, {example(), []int{0, 5, 4}, false}, {example(), []int{0, 5, -1}, false}, {example(), []int{0, 2, 0}, true}, {example(), []int{0, 5, 0}, true},
		{example(), []int{0, 5, 1}, true}, {example(), []int{0, 6, 0}, false}, {example(), []int{0, 1, 0}, false}, {example(), []int{1, 6, 1}, true},
		{example(), []int{0, 5}, false}, {example(), []int{0, 5, 0, 0}, false}, {example(), nil, false},
		{bounds(2), []int{most, -most}, true}, {bounds(2), []int{-most, most}, true},
		{bounds(2), []int{most + 1, 0}, false}, {bounds(2), []int{0, most + 1}, false}, {bounds(2), []int{0, -most - 1}, false}, {bounds(2), []int{-most - 1, 0}, false},
		{bounds(2), []int{math.MinInt, math.MaxInt}, false}, {bounds(2, 0, 1, 5), []int{math.MinInt, math.MaxInt}, false}, {bounds(2, 1, 0, 5), []int{math.MinInt, math.MaxInt}, false},
		{bounds(2, 0, 1, 5), []int{most - 5, most}, true}, {bounds(2, 0, 1, 5), []int{most - 6, most}, false}, {bounds(2, 0, 1, 5), []int{most, -most}, true}, {bounds(2, 0, 1, 5), []int{-most, most}, false},
		{bounds(1, 0, 0, 0), []int{7}, true}, {bounds(1, 0, 0, -1), []int{7}, false}, {bounds(1, 0, 0, 1), []int{7}, true},
		{bounds(2, 0, 1, -1000000000), []int{0, -1000000000}, true}, {bounds(2, 0, 1, -1000000000), []int{0, -999999999}, false},
		{bounds(2, 0, 1, 5, 0, 1, 4), []int{0, 5}, false}, {bounds(2, 0, 1, 4, 0, 1, 5), []int{0, 5}, false},
	} {
		checkAllowed(t, c.b, c.x, c.want)
	}
}

// P9.1: Close and Solve

func TestCloseAndSolveExamples(t *testing.T) {
	const far = 1152921504606846976
	checkClose(t, example(), [][]int{{0, 5, 3}, {-2, 0, -2}, {0, 5, 0}})
	checkSolve(t, example(), -2, 0, -2)
	checkClose(t, without(example(), 2), [][]int{{0, 5, 3}, {far, 0, -2}, {far, far, 0}})
	checkSolve(t, without(example(), 2), 0, 0, -2)
	checkClose(t, api.Between{}, nil)
	checkSolve(t, api.Between{})
	checkClose(t, bounds(1), [][]int{{0}})
	checkSolve(t, bounds(1), 0)
	checkClose(t, bounds(1, 0, 0, 0, 0, 0, 9), [][]int{{0}})
	checkClose(t, bounds(2), [][]int{{0, far}, {far, 0}})
	checkSolve(t, bounds(2), 0, 0)
	checkClose(t, bounds(2, 0, 1, 7, 0, 1, 4, 0, 1, 9), [][]int{{0, 4}, {far, 0}})
	checkSolve(t, bounds(2, 0, 1, 7), 0, 0)
	checkClose(t, bounds(2, 0, 1, -7, 1, 0, 7), [][]int{{0, -7}, {7, 0}})
	checkSolve(t, bounds(2, 0, 1, -7, 1, 0, 7), 0, -7)
	checkNone(t, bounds(2, 0, 1, -7, 1, 0, 6))
	checkNone(t, bounds(2, 1, 1, -1))
	// Fewer bounds are not always less.
	checkClose(t, bounds(3, 0, 2, 9, 0, 1, 4, 1, 2, 4), [][]int{{0, 4, 8}, {far, 0, 4}, {far, far, 0}})
	checkClose(t, bounds(3, 0, 2, 8, 0, 1, 4, 1, 2, 5), [][]int{{0, 4, 8}, {far, 0, 5}, {far, far, 0}})
}

// line returns bounds from each of the 16 variables to the next one.
func line(most int) api.Between { return without(ring(16, most), 15) }

func TestLongestChains(t *testing.T) {
	for _, most := range []int{0, 1, -1, 1000000000, -1000000000} {
		var want [][]int
		var least []int
		for i := range 16 {
			row := times(16, api.Far)
			for k := i; k < 16; k++ {
				row[k] = (k - i) * most
			}
			want = append(want, row)
			least = append(least, min(0, i*most))
		}
		checkClose(t, line(most), want)
		checkSolve(t, line(most), least...)
	}
	for _, most := range []int{0, 1, 1000000000} {
		if consistent := checkAll(t, ring(16, most)); !consistent {
			t.Errorf("the ring with %d contradicts itself", most)
		}
	}
}

// upTo returns the numbers below n.
func upTo(n int) []int {
	var l []int
	for i := range n {
		l = append(l, i)
	}
	return l
}

// P9.1: Cycle and CheckCycle

func TestCycleExamples(t *testing.T) {
	for _, c := range []struct {
		b    api.Between
		want []int
	}{
		{bounds(3, 0, 1, 5, 1, 2, -2, 2, 0, -4), []int{0, 1, 2}},
		{bounds(1, 0, 0, -1), []int{0}}, {bounds(1, 0, 0, 0, 0, 0, -1), []int{1}}, {bounds(1, 0, 0, -1, 0, 0, -9), []int{0}}, {bounds(16, 15, 15, -1000000000), []int{0}},
		{bounds(2, 0, 1, 3, 1, 0, -4), []int{0, 1}}, {bounds(2, 1, 0, -4, 0, 1, 3), []int{0, 1}},
		// The fewest bounds come first, whatever the sums are.
		{bounds(3, 0, 1, -9, 1, 2, -9, 2, 0, -9, 1, 0, 8), []int{0, 3}}, {bounds(3, 0, 1, -9, 1, 0, -9, 2, 2, -1), []int{2}},
		{bounds(3, 0, 1, 5, 1, 2, -2, 2, 0, -4, 1, 0, -5), []int{0, 1, 2}}, {bounds(3, 0, 1, 5, 1, 2, -2, 2, 0, -4, 1, 0, -6), []int{0, 3}},
		// Of the contradictions that are as short, the lexicographically first one.
		{bounds(4, 2, 3, 0, 3, 2, -9, 0, 1, 0, 1, 0, -1), []int{0, 1}}, {bounds(4, 2, 3, 0, 1, 0, -1, 0, 1, 0, 3, 2, -9), []int{0, 3}}, {bounds(4, 2, 3, 9, 1, 0, -1, 0, 1, 0, 3, 2, -9), []int{1, 2}},
		{bounds(2, 0, 1, 3, 0, 1, 2, 1, 0, -2, 1, 0, -3), []int{1, 3}}, {bounds(2, 0, 1, 3, 0, 1, 2, 1, 0, -3, 1, 0, -4), []int{0, 3}}, {bounds(2, 1, 0, -3, 0, 1, 3, 0, 1, 2, 1, 0, -4), []int{0, 2}},
		{bounds(3, 1, 2, 0, 2, 1, 0, 2, 0, -1, 0, 1, 0), []int{0, 2, 3}},
		// A bound from a variable to itself makes a chain longer, and here less.
		{bounds(2, 0, 0, 0, 0, 1, 3, 1, 0, -4), []int{1, 2}},
	} {
		checkCycle(t, c.b, c.want...)
	}
	for _, b := range []api.Between{{}, {N: 1}, {N: 16}, example(), bounds(1, 0, 0, 0), bounds(2, 0, 1, 4, 1, 0, -4), bounds(3, 0, 1, -9, 1, 2, -9), ring(16, 0), line(-1000000000)} {
		checkNoCycle(t, b)
	}
}

func TestLongestCycles(t *testing.T) {
	checkCycle(t, ring(16, -1), upTo(16)...)
	checkCycle(t, ring(16, -1000000000), upTo(16)...)
	for i := range 16 {
		b := ring(16, 1)
		b.Bounds[i].Most = -15
		checkAll(t, b)
		checkNoCycle(t, b)
		b.Bounds[i].Most = -16
		checkCycle(t, b, upTo(16)...)
		// With the bounds in the opposite direction, and in the opposite order, the first one still comes first.
		slices.Reverse(b.Bounds)
		want := []int{0}
		for k := 15; k > 0; k-- {
			want = append(want, k)
		}
		checkCycle(t, b, want...)
	}
	// All bounds there can be, of which only the last one contradicts the others.
	b := with(ring(15, 1000000000), slices.Repeat([]api.Bound{bound(3, 9, 1000000000)}, 44)...)
	b.N = 16
	checkNoCycle(t, b)
	checkCycle(t, with(b, bound(15, 15, -1)), 59)
}

func TestCheckCycle(t *testing.T) {
	b := bounds(3, 0, 1, 5, 1, 2, -2, 2, 0, -4, 0, 1, 6)
	for _, c := range []struct {
		l    []int
		want bool
	}{
		{nil, false}, {[]int{}, false}, {[]int{0, 1, 2}, true}, {[]int{1, 2, 0}, true}, {[]int{2, 0, 1}, true}, {[]int{0, 1, 2, 0, 1, 2}, true}, {[]int{2, 3, 1, 2, 0, 1}, true},
		{[]int{3, 1, 2}, false}, {[]int{0, 1}, false}, {[]int{1, 2}, false}, {[]int{2, 1, 0}, false}, {[]int{0, 2, 1}, false}, {[]int{0, 1, 2, 0}, false}, {[]int{0, 3, 1, 2}, false},
		{[]int{-1}, false}, {[]int{4}, false}, {[]int{0, 1, 4}, false}, {[]int{0, 1, -1}, false}, {[]int{0, 1, 2, 4}, false}, {[]int{4, 0, 1, 2}, false}, {[]int{-1, 0, 1, 2}, false}, {[]int{math.MinInt}, false}, {[]int{0, 1, math.MaxInt}, false},
		{slices.Repeat([]int{0, 1, 2}, 20), true}, {slices.Repeat([]int{0, 1, 2}, 21), false},
	} {
		checkIsCycle(t, b, c.l, c.want)
	}
	checkIsCycle(t, example(), []int{0, 1, 2}, false)
	for _, n := range []int{1, 2, 59, 60, 61, 62, 1000} {
		checkIsCycle(t, bounds(1, 0, 0, -1), times(n, 0), n <= 60)
		checkIsCycle(t, bounds(16, 15, 15, -1000000000), times(n, 0), n <= 60)
		checkIsCycle(t, bounds(1, 0, 0, 0), times(n, 0), false)
		checkIsCycle(t, bounds(1, 0, 0, 1000000000), times(n, 0), false)
	}
	checkIsCycle(t, api.Between{}, nil, false)
	checkIsCycle(t, api.Between{}, []int{0}, false)
	checkIsCycle(t, bounds(1), []int{0}, false)
}

// P9.1: Implied and CheckChain

func TestImpliedExamples(t *testing.T) {
	checkImplied(t, example(), bound(0, 2, 3), 0, 1)
	checkNotImplied(t, example(), bound(0, 2, 2))
	checkNotImplied(t, bounds(3, 0, 1, 5, 1, 2, -2, 2, 0, -4), bound(0, 1, 5))
	// A variable is not greater than itself.
	checkImplied(t, bounds(1), bound(0, 0, 0))
	checkImplied(t, bounds(1, 0, 0, 0), bound(0, 0, 0))
	checkImplied(t, example(), bound(2, 2, 1000000000))
	checkNotImplied(t, example(), bound(2, 2, -1))
	checkNotImplied(t, bounds(1, 0, 0, -1), bound(0, 0, 0))
	checkNotImplied(t, bounds(2), bound(0, 1, 1000000000))
	checkNotImplied(t, api.Between{}, bound(0, 0, 0))
	b := bounds(3, 0, 2, 9, 0, 1, 4, 1, 2, 4, 0, 2, 10, 0, 1, 3)
	for _, c := range []struct {
		most int
		want []int
	}{{1000000000, []int{0}}, {10, []int{0}}, {9, []int{0}}, {8, []int{1, 2}}, {7, []int{4, 2}}} {
		checkImplied(t, b, bound(0, 2, c.most), c.want...)
	}
	checkNotImplied(t, b, bound(0, 2, 6))
	checkNotImplied(t, b, bound(0, 2, -1000000000))
	checkNotImplied(t, b, bound(2, 0, 1000000000))
	// Two chains that are as long: the first one, unless its sum is too great.
	b = bounds(4, 2, 3, 5, 1, 3, 5, 0, 2, 1, 0, 1, 2)
	checkImplied(t, b, bound(0, 3, 7), 2, 0)
	checkImplied(t, b, bound(0, 3, 6), 2, 0)
	b.Bounds[2].Most = 3
	checkImplied(t, b, bound(0, 3, 8), 2, 0)
	checkImplied(t, b, bound(0, 3, 7), 3, 1)
	checkNotImplied(t, b, bound(0, 3, 6))
}

func TestLongestImplied(t *testing.T) {
	for _, most := range []int{0, 1, -1, 60000000, -60000000} {
		checkImplied(t, line(most), bound(0, 15, 15*most), upTo(15)...)
		checkImplied(t, line(most), bound(0, 15, 1000000000), upTo(15)...)
		checkNotImplied(t, line(most), bound(0, 15, 15*most-1))
		checkNotImplied(t, line(most), bound(15, 0, 1000000000))
	}
	checkNotImplied(t, line(1000000000), bound(0, 15, 1000000000))
	checkImplied(t, line(1000000000), bound(0, 1, 1000000000), 0)
	checkImplied(t, line(-1000000000), bound(0, 15, -1000000000), upTo(15)...)
	checkImplied(t, line(-1000000000), bound(3, 4, -1000000000), 3)
}

func TestNothingElseIsImplied(t *testing.T) {
	for _, n := range []int{2, 3, 16} {
		b := bounds(n, 0, 1, 5, 1, 0, 5)
		for _, x := range notFor(n) {
			if n == 16 && x.From <= 15 && x.To <= 15 && min(x.From, x.To) >= 0 && max(x.Most, -x.Most) <= 1000000000 {
				continue
			}
			checkNotImplied(t, b, x)
			for _, l := range [][]int{nil, {0}, {0, 1}, {0, 0}} {
				checkIsChain(t, b, x, l, false)
			}
		}
	}
	for _, x := range []api.Bound{{}, bound(0, 0, 5), bound(-1, -1, 5)} {
		checkNotImplied(t, api.Between{}, x)
		checkIsChain(t, api.Between{}, x, nil, false)
	}
}

func TestCheckChain(t *testing.T) {
	for _, c := range []struct {
		x    api.Bound
		l    []int
		want bool
	}{
		{bound(0, 2, 3), []int{0, 1}, true}, {bound(0, 2, 2), []int{0, 1}, false}, {bound(0, 2, 4), []int{0, 1}, true}, {bound(0, 1, 3), []int{0, 1}, false}, {bound(1, 2, 3), []int{0, 1}, false},
		{bound(0, 1, 5), []int{0}, true}, {bound(0, 1, 4), []int{0}, false}, {bound(1, 0, 5), []int{0}, false}, {bound(0, 1, 5), []int{3}, false}, {bound(0, 1, 5), []int{-1}, false}, {bound(0, 1, 5), nil, false},
		{bound(0, 1, 8), []int{0, 1, 2, 0}, true}, {bound(0, 1, 7), []int{0, 1, 2, 0}, false}, {bound(0, 1, 1000000000), []int{0, 0}, false}, {bound(0, 1, 1000000000), []int{0, 1, 2}, false},
		{bound(0, 0, 0), nil, true}, {bound(1, 1, 7), []int{}, true}, {bound(2, 2, -1), nil, false}, {bound(0, 0, 3), []int{0, 1, 2}, true}, {bound(0, 0, 2), []int{0, 1, 2}, false}, {bound(1, 1, 3), []int{0, 1, 2}, false},
		{bound(0, 1, 5), []int{math.MaxInt}, false}, {bound(0, 2, 9), []int{0, math.MinInt}, false}, {bound(0, 2, 9), []int{0, 1, 3}, false},
	} {
		checkIsChain(t, example(), c.x, c.l, c.want)
	}
	// It accepts chains that show a bound also where another chain contradicts.
	checkIsChain(t, bounds(2, 0, 0, -1, 0, 1, 5), bound(0, 1, 5), []int{1}, true)
	checkIsChain(t, bounds(2, 0, 0, -1, 0, 1, 5), bound(0, 1, 0), []int{0, 0, 0, 0, 0, 1}, true)
	checkIsChain(t, bounds(2, 0, 0, -1, 0, 1, 5), bound(0, 1, 0), []int{0, 0, 0, 0, 1}, false)
	for _, n := range []int{1, 2, 59, 60, 61, 62, 1000} {
		checkIsChain(t, bounds(1, 0, 0, 0), bound(0, 0, 0), times(n, 0), n <= 60)
		checkIsChain(t, bounds(16, 15, 15, -1000000000), bound(15, 15, -1000000000), times(n, 0), n <= 60)
		checkIsChain(t, bounds(16, 15, 15, 1000000000), bound(15, 15, 1000000000), times(n, 0), n == 1)
	}
}

// P9.1: all functions against the definitions

// small calls check for all lists of up to so many bounds for n variables, with Mosts from -most to most.
func small(n, count, most int, check func(b api.Between)) {
	var all []api.Bound
	for from := range n {
		for to := range n {
			for m := -most; m <= most; m++ {
				all = append(all, bound(from, to, m))
			}
		}
	}
	for l := range lists(len(all), count) {
		b := api.Between{N: n}
		for _, i := range l {
			b.Bounds = append(b.Bounds, all[i])
		}
		check(b)
	}
}

// checkWhole compares what Cycle and Implied return with the first one of all lists.
func checkWhole(t *testing.T, b api.Between, longest, most int) {
	t.Helper()
	consistent := true
	for l := range lists(len(b.Bounds), longest) {
		if isCycle(b, l) {
			checkCycle(t, b, l...)
			consistent = false
			break
		}
	}
	if consistent {
		checkNoCycle(t, b)
	}
	for from := range b.N {
		for to := range b.N {
			for m := -most; m <= most; m++ {
				checkWholeChain(t, b, bound(from, to, m), longest, consistent)
			}
		}
	}
}

func checkWholeChain(t *testing.T, b api.Between, x api.Bound, longest int, consistent bool) {
	t.Helper()
	if consistent {
		for l := range lists(len(b.Bounds), longest) {
			if isChain(b, x, l) {
				checkImplied(t, b, x, l...)
				return
			}
		}
	}
	checkNotImplied(t, b, x)
}

func TestAllSmallBounds(t *testing.T) {
	contradictions, others := 0, 0
	count := func(b api.Between) {
		if checkAll(t, b) {
			others++
		} else {
			contradictions++
		}
	}
	small(1, 3, 2, count)
	small(2, 3, 2, count)
	small(3, 2, 2, count)
	small(3, 3, 1, count)
	if contradictions < 5000 || others < 5000 {
		t.Errorf("there were %d with a contradiction, and %d others", contradictions, others)
	}
	small(1, 2, 2, func(b api.Between) { checkWhole(t, b, 3, 3) })
	small(2, 2, 1, func(b api.Between) { checkWhole(t, b, 4, 3) })
	small(3, 2, 1, func(b api.Between) { checkWhole(t, b, 4, 2) })
}

func TestFirstOfAllLists(t *testing.T) {
	r := rand.New(rand.NewPCG(9, 1))
	contradictions, others := 0, 0
	for range 300 {
		b := some(r, 4, 5, 3)
		if checkAll(t, b) {
			others++
		} else {
			contradictions++
		}
		checkWhole(t, b, 4, 5)
	}
	if contradictions < 60 || others < 60 {
		t.Errorf("there were %d with a contradiction, and %d others", contradictions, others)
	}
}

func TestManyBounds(t *testing.T) {
	r := rand.New(rand.NewPCG(9, 2))
	contradictions, others, longest := 0, 0, 0
	for i := range 3000 {
		b := some(r, 16, []int{8, 20, 60}[i%3], []int{2, 100, 500000000}[i/3%3])
		if i%2 == 0 {
			b, _ = kept(r, 16, []int{8, 20, 60}[i%3], []int{3, 100, 200000000}[i/3%3])
			b.Bounds = append(b.Bounds, oneOf(r, b, 3))[:min(60, len(b.Bounds)+1)]
		}
		if checkAll(t, b) {
			others++
		} else {
			contradictions++
			l, _ := between.Cycle(b)
			longest = max(longest, len(l))
		}
	}
	if contradictions < 800 || others < 800 || longest < 7 {
		t.Errorf("there were %d with a contradiction, of up to %d bounds, and %d others", contradictions, longest, others)
	}
}

func TestManyImplied(t *testing.T) {
	r := rand.New(rand.NewPCG(9, 3))
	implied, others, longest := 0, 0, 0
	for i := range 3000 {
		b, _ := kept(r, 16, []int{8, 20, 60}[i%3], []int{3, 100, 200000000}[i/3%3])
		x := bound(r.IntN(b.N), r.IntN(b.N), 0)
		distances, _ := closed(b)
		if d := distances[x.From][x.To]; d <= 900000000 && d >= -900000000 {
			x.Most = d + r.IntN(3) - 1
		}
		if !checkFirstChain(t, b, x) {
			others++
			continue
		}
		implied++
		l, _ := between.Implied(b, x)
		longest = max(longest, len(l))
	}
	if implied < 800 || others < 800 || longest < 7 {
		t.Errorf("%d were implied, with up to %d bounds, and %d not", implied, longest, others)
	}
}

func TestCheckListsOfAnyKind(t *testing.T) {
	r := rand.New(rand.NewPCG(9, 4))
	cycles, chains := 0, 0
	for range 40000 {
		b := some(r, 3, 6, 4)
		l := wander(r, b)
		x := oneOf(r, b, 4)
		checkIsCycle(t, b, l, isCycle(b, l))
		checkIsChain(t, b, x, l, isChain(b, x, l))
		if isCycle(b, l) {
			cycles++
		}
		if isChain(b, x, l) {
			chains++
		}
	}
	if cycles < 500 || chains < 500 {
		t.Errorf("there were %d contradictions and %d chains", cycles, chains)
	}
}

// wander returns a list of indices that is a chain, but for a wrong index now and then.
func wander(r *rand.Rand, b api.Between) []int {
	var l []int
	for range r.IntN(8) {
		i := r.IntN(len(b.Bounds)+2) - 1
		for range 10 {
			if len(l) > 0 && l[len(l)-1] >= 0 && l[len(l)-1] < len(b.Bounds) && i >= 0 && i < len(b.Bounds) && b.Bounds[i].From != b.Bounds[l[len(l)-1]].To {
				i = r.IntN(len(b.Bounds)+2) - 1
			}
		}
		l = append(l, i)
	}
	return l
}

// R3

// spare returns l with spare capacity, and what lies in it all.
func spare[T any](l []T, filling T) ([]T, []T) {
	l = append(slices.Clone(l), filling, filling, filling)
	return l[:len(l)-3], slices.Clone(l)
}

func TestArgumentsAreNotModified(t *testing.T) {
	for _, original := range []api.Between{example(), bounds(3, 0, 1, 5, 1, 2, -2, 2, 0, -4)} {
		b := original
		var whole []api.Bound
		b.Bounds, whole = spare(original.Bounds, bound(7, 7, 7))
		l, wholeList := spare([]int{0, 1, 2}, 7)
		between.Valid(b)
		between.Allowed(b, l)
		between.Close(b)
		between.Solve(b)
		between.Cycle(b)
		between.CheckCycle(b, l)
		between.Implied(b, bound(0, 2, 3))
		between.CheckChain(b, bound(0, 2, 3), l[:2])
		if !slices.Equal(b.Bounds[:len(whole)], whole) || !slices.Equal(l[:len(wholeList)], wholeList) {
			t.Errorf("%v, %v", b.Bounds[:len(whole)], l[:len(wholeList)])
		}
	}
}

// spoil changes what lies in l and in its spare capacity.
func spoil(l []int) {
	l = l[:cap(l)]
	for i := range l {
		l[i] = 77
	}
}

func TestResultsAreNewMemory(t *testing.T) {
	b := example()
	distances, _ := between.Close(b)
	for i, row := range distances {
		spoil(row)
		for _, other := range distances[i+1:] {
			if slices.Contains(other[:cap(other)], 77) {
				t.Fatalf("rows share memory: %v", distances)
			}
		}
	}
	x, _ := between.Solve(b)
	spoil(x)
	l, _ := between.Implied(b, bound(0, 2, 3))
	spoil(l)
	checkClose(t, b, [][]int{{0, 5, 3}, {-2, 0, -2}, {0, 5, 0}})
	checkSolve(t, b, -2, 0, -2)
	checkImplied(t, b, bound(0, 2, 3), 0, 1)
	b.Bounds[2].Most = -4
	l, _ = between.Cycle(b)
	spoil(l)
	checkCycle(t, b, 0, 1, 2)
}

func TestNilAndEmptyAreTheSame(t *testing.T) {
	for _, b := range []api.Between{{N: 2}, {N: 2, Bounds: []api.Bound{}}} {
		checkAllowed(t, b, []int{3, 4}, true)
		checkClose(t, b, [][]int{{0, api.Far}, {api.Far, 0}})
		checkSolve(t, b, 0, 0)
		checkNoCycle(t, b)
		for _, l := range [][]int{nil, {}} {
			checkIsCycle(t, b, l, false)
			checkIsChain(t, b, bound(1, 1, 0), l, true)
		}
	}
	for _, x := range [][]int{nil, {}} {
		checkAllowed(t, api.Between{}, x, true)
	}
}

func FuzzBetween(f *testing.F) {
	f.Add([]byte{3, 0, 1, 133, 1, 2, 126, 2, 0, 128, 0, 2, 131})
	f.Add([]byte{3, 0, 1, 133, 1, 2, 126, 2, 0, 124, 0, 1, 133})
	f.Add([]byte{16, 15, 15, 127, 0, 0, 128})
	f.Fuzz(func(t *testing.T, s []byte) {
		b, whole := api.Between{N: 1}, s
		if len(s) > 0 {
			b.N = 1 + int(s[0])%16
			s = s[1:]
		}
		for ; len(s) >= 3 && len(b.Bounds) < 60; s = s[3:] {
			b.Bounds = append(b.Bounds, bound(int(s[0])%b.N, int(s[1])%b.N, int(s[2])-128))
		}
		consistent := checkAll(t, b)
		if len(b.Bounds) == 0 {
			return
		}
		// The last bound is asked for, too.
		x := b.Bounds[len(b.Bounds)-1]
		b = without(b, len(b.Bounds)-1)
		if consistent {
			checkFirstChain(t, b, x)
		}
		var l []int
		for _, c := range whole {
			l = append(l, int(c)%(len(b.Bounds)+2)-1)
		}
		checkIsCycle(t, b, l, isCycle(b, l))
		checkIsChain(t, b, x, l, isChain(b, x, l))
	})
}

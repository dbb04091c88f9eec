package between_test

import (
	"math/rand/v2"
	"slices"
	"testing"

	"putlog/api"
	"putlog/between"
)

// The functions in this part make bounds and their situations.

// situations returns all situations with values from low to high that keep the bounds of b.
func situations(b api.Between, low, high int) [][]int {
	var all [][]int
	digits := make([]int, b.N)
	for more := true; more; more = next(digits, high-low+1) {
		x := make([]int, b.N)
		for v := range x {
			x[v] = low + digits[v]
		}
		if keeps(b, x) {
			all = append(all, x)
		}
	}
	return all
}

// away returns a situation of b, which has no contradiction, in which each variable that v reaches is away from it by its distance, and each other one by more than any bound allows.
func away(t *testing.T, b api.Between, v int) []int {
	t.Helper()
	distances, err := between.Close(b)
	x, failed := between.Solve(b)
	if err != api.OK || failed != api.OK {
		t.Fatalf("Close and Solve of %v: %v, %v", b, err, failed)
	}
	for k, d := range distances[v] {
		x[k] += 100000000000
		if d < api.Far {
			x[k] = d
		}
	}
	return x
}

// others returns further situations of b, which x keeps: moved, and mixed with the solution and with those in which the distances are.
func others(t *testing.T, r *rand.Rand, b api.Between, x []int) [][]int {
	t.Helper()
	solution, _ := between.Solve(b)
	all := [][]int{x, solution}
	for v := range b.N {
		all = append(all, away(t, b, v))
	}
	for range 10 {
		a, b, by := all[r.IntN(len(all))], all[r.IntN(len(all))], r.IntN(200)-100
		var low, high []int
		for v := range a {
			low, high = append(low, min(a[v], b[v]+by)), append(high, max(a[v], b[v]+by))
		}
		all = append(all, low, high)
	}
	return all
}

// consistent calls check for many bounds without a contradiction, and a situation that keeps them.
func consistent(seed uint64, check func(r *rand.Rand, b api.Between, x []int)) {
	r := rand.New(rand.NewPCG(9, seed))
	for i := range 900 {
		b, x := kept(r, 16, []int{8, 20, 59}[i%3], []int{3, 100, 200000000}[i/3%3])
		check(r, b, x)
	}
}

// P9.2

func TestAllowedSituationsKeepTheDistances(t *testing.T) {
	consistent(10, func(r *rand.Rand, b api.Between, x []int) {
		distances, err := between.Close(b)
		if err != api.OK {
			t.Fatalf("Close(%v): %v", b, err)
		}
		for _, y := range others(t, r, b, x) {
			checkAllowed(t, b, y, true)
			for i, row := range distances {
				for k, d := range row {
					if y[k]-y[i] > d {
						t.Fatalf("%v does not keep %d from %d to %d, which follows from %v", y, d, i, k, b)
					}
				}
			}
		}
	})
}

func TestDistancesAreReached(t *testing.T) {
	reached, unreached := 0, 0
	consistent(11, func(r *rand.Rand, b api.Between, x []int) {
		distances, _ := between.Close(b)
		for v := range b.N {
			y := away(t, b, v)
			checkAllowed(t, b, y, true)
			for k, d := range distances[v] {
				if d == api.Far {
					unreached++
				} else if reached++; y[k]-y[v] != d {
					t.Fatalf("%v does not reach %d from %d to %d", y, d, v, k)
				}
			}
		}
	})
	if reached < 10000 || unreached < 10000 {
		t.Errorf("%d were reached, and %d were not", reached, unreached)
	}
}

func TestDistancesOfSmallBoundsAreReached(t *testing.T) {
	small(3, 2, 1, func(b api.Between) {
		distances, err := between.Close(b)
		all := situations(b, -3, 3)
		if (err == api.OK) != (len(all) > 0) {
			t.Fatalf("Close(%v): %v, but there are %d situations", b, err, len(all))
		}
		for i, row := range distances {
			for k, d := range row {
				greatest := -100
				for _, x := range all {
					greatest = max(greatest, x[k]-x[i])
				}
				if greatest != d && (d < api.Far || greatest < 4) {
					t.Fatalf("the distance from %d to %d is %d, but %v allows %d", i, k, d, b, greatest)
				}
			}
		}
	})
}

// P9.3

func TestAllowedUnlessContradicted(t *testing.T) {
	contradictions, others := 0, 0
	small(3, 3, 1, func(b api.Between) {
		_, found := between.Cycle(b)
		// What any situation allows is allowed within a range of this size, too.
		all := situations(b, -2, 0)
		if found == (len(all) > 0) {
			t.Fatalf("Cycle(%v): %v, but there are %d situations", b, found, len(all))
		}
		if found {
			contradictions++
		} else {
			others++
		}
	})
	if contradictions < 5000 || others < 5000 {
		t.Errorf("there were %d with a contradiction, and %d others", contradictions, others)
	}
}

// named returns the bounds of b that l names, each one once.
func named(b api.Between, l []int) api.Between {
	only := api.Between{N: b.N}
	for i, x := range b.Bounds {
		if slices.Contains(l, i) {
			only.Bounds = append(only.Bounds, x)
		}
	}
	return only
}

func TestCyclesNeedAllTheirBounds(t *testing.T) {
	r := rand.New(rand.NewPCG(9, 12))
	cycles, longest := 0, 0
	for i := range 6000 {
		b, _ := kept(r, 16, []int{8, 20, 59}[i%3], []int{3, 100, 200000000}[i/3%3])
		b.Bounds = append(b.Bounds, oneOf(r, b, 100))
		l, found := between.Cycle(b)
		if !found {
			continue
		}
		cycles++
		longest = max(longest, len(l))
		if !isCycle(b, l) || !between.CheckCycle(b, l) {
			t.Fatalf("Cycle(%v) = %v", b, l)
		}
		only := named(b, l)
		checkNone(t, only)
		if len(only.Bounds) != len(l) {
			t.Fatalf("Cycle(%v) = %v", b, l)
		}
		for i := range only.Bounds {
			checkNoCycle(t, without(only, i))
			if _, err := between.Solve(without(only, i)); err != api.OK {
				t.Fatalf("%v contradict each other also without %d", only, i)
			}
		}
	}
	if cycles < 600 || longest < 6 {
		t.Errorf("there were %d, with up to %d bounds", cycles, longest)
	}
}

func TestWhatIsACycleAllowsNothing(t *testing.T) {
	r := rand.New(rand.NewPCG(9, 13))
	cycles := 0
	for range 40000 {
		b := some(r, 3, 5, 3)
		l := wander(r, b)
		if !between.CheckCycle(b, l) {
			continue
		}
		cycles++
		if all := situations(b, -8, 0); len(all) > 0 {
			t.Fatalf("%v allows %v in spite of %v", b, all[0], l)
		}
		if _, found := between.Cycle(b); !found {
			t.Fatalf("Cycle(%v) finds none in spite of %v", b, l)
		}
		checkNone(t, b)
		// More bounds do not help.
		further := with(b, oneOf(r, b, 3))
		checkIsCycle(t, further, l, true)
		checkNone(t, further)
	}
	if cycles < 500 {
		t.Errorf("there were %d", cycles)
	}
}

func TestNoCycleIsAcceptedWhereSomethingIsAllowed(t *testing.T) {
	consistent(14, func(r *rand.Rand, b api.Between, x []int) {
		checkNoCycle(t, b)
		for range 30 {
			checkIsCycle(t, b, wander(r, b), false)
		}
	})
}

// P9.4

func TestImpliedIfAllSituationsKeepIt(t *testing.T) {
	small(3, 2, 1, func(b api.Between) {
		all := situations(b, -3, 3)
		if len(all) == 0 {
			return
		}
		for from := range b.N {
			for to := range b.N {
				for most := -3; most <= 3; most++ {
					x := bound(from, to, most)
					_, implied := between.Implied(b, x)
					var kept int
					for _, y := range all {
						if y[to]-y[from] <= most {
							kept++
						}
					}
					if implied != (kept == len(all)) {
						t.Fatalf("Implied(%v, %v) = %v, but %d of %d situations keep it", b, x, implied, kept, len(all))
					}
				}
			}
		}
	})
}

func TestImpliedOrNotKept(t *testing.T) {
	implied, notKept := 0, 0
	consistent(15, func(r *rand.Rand, b api.Between, x []int) {
		for range 10 {
			asked := oneOf(r, b, 100)
			l, found := between.Implied(b, asked)
			if !found {
				notKept++
				if y := away(t, b, asked.From); !keeps(b, y) || y[asked.To]-y[asked.From] <= asked.Most {
					t.Fatalf("Implied(%v, %v) = false, but %v keeps it", b, asked, y)
				}
				continue
			}
			implied++
			checkIsChain(t, b, asked, l, true)
			for _, y := range others(t, r, b, x) {
				if y[asked.To]-y[asked.From] > asked.Most {
					t.Fatalf("Implied(%v, %v) = %v, but %v does not keep it", b, asked, l, y)
				}
			}
		}
	})
	if implied < 800 || notKept < 800 {
		t.Errorf("%d were implied, and %d not kept", implied, notKept)
	}
}

func TestWhatIsAChainIsKept(t *testing.T) {
	r := rand.New(rand.NewPCG(9, 16))
	chains := 0
	for i := range 40000 {
		b, y := kept(r, 4, 8, 4)
		l, x := wander(r, b), oneOf(r, b, 6)
		if i%2 == 0 && len(l) > 0 && l[0] >= 0 && l[0] < len(b.Bounds) && l[len(l)-1] >= 0 && l[len(l)-1] < len(b.Bounds) {
			x.From, x.To = b.Bounds[l[0]].From, b.Bounds[l[len(l)-1]].To
		}
		if !between.CheckChain(b, x, l) {
			continue
		}
		chains++
		for _, z := range others(t, r, b, y) {
			if z[x.To]-z[x.From] > x.Most {
				t.Fatalf("CheckChain(%v, %v, %v), but %v does not keep it", b, x, l, z)
			}
		}
		if _, implied := between.Implied(b, x); !implied {
			t.Fatalf("Implied(%v, %v) = false in spite of %v", b, x, l)
		}
	}
	if chains < 2000 {
		t.Errorf("there were %d", chains)
	}
}

// P9.5

func TestSolutionsAreTheGreatest(t *testing.T) {
	small(3, 3, 1, func(b api.Between) {
		all := situations(b, -2, 0)
		got, err := between.Solve(b)
		if err != api.OK {
			return
		}
		if !slices.ContainsFunc(all, func(x []int) bool { return slices.Equal(x, got) }) {
			t.Fatalf("Solve(%v) = %v, which is none of %v", b, got, all)
		}
		for _, x := range all {
			for v := range x {
				if x[v] > got[v] {
					t.Fatalf("Solve(%v) = %v, but there is %v", b, got, x)
				}
			}
		}
	})
}

func TestNoOtherSolutionIsGreaterAnywhere(t *testing.T) {
	consistent(17, func(r *rand.Rand, b api.Between, x []int) {
		got, err := between.Solve(b)
		if err != api.OK || slices.Max(got) != 0 {
			t.Fatalf("Solve(%v) = %v, %v", b, got, err)
		}
		checkAllowed(t, b, got, true)
		for _, y := range others(t, r, b, x) {
			above := slices.Max(y)
			for v := range y {
				if y[v]-max(0, above) > got[v] {
					t.Fatalf("Solve(%v) = %v, but %v less %d is allowed", b, got, y, above)
				}
			}
		}
		checkNoneGreater(t, b, got)
	})
}

// checkNoneGreater checks that each value is 0, or less than that of another variable by all that a bound allows, and so on up to a 0.
func checkNoneGreater(t *testing.T, b api.Between, x []int) {
	t.Helper()
	var held []int
	for v := range x {
		if x[v] == 0 {
			held = append(held, v)
		}
	}
	for n := 0; n < len(held); n++ {
		for _, y := range b.Bounds {
			if y.From == held[n] && x[y.To]-x[y.From] == y.Most && !slices.Contains(held, y.To) {
				held = append(held, y.To)
			}
		}
	}
	if len(held) != b.N {
		t.Errorf("Solve(%v) = %v, but only %v are held", b, x, held)
	}
}

// P9.6

func TestFurtherBoundsBringNothingApart(t *testing.T) {
	implied, nearer, contradictions := 0, 0, 0
	consistent(18, func(r *rand.Rand, b api.Between, x []int) {
		for range 5 {
			further := oneOf(r, b, []int{5, 100, 200000000}[r.IntN(3)])
			_, follows := between.Implied(b, further)
			old, _ := between.Close(b)
			now, err := between.Close(with(b, further))
			if err != api.OK {
				contradictions++
				if follows {
					t.Fatalf("%v follows from %v, and contradicts it", further, b)
				}
				continue
			}
			same := true
			for i, row := range now {
				for k, d := range row {
					if d > old[i][k] {
						t.Fatalf("the distance from %d to %d is %d, and with %v %d", i, k, old[i][k], further, d)
					}
					same = same && d == old[i][k]
				}
			}
			if same != follows {
				t.Fatalf("Implied(%v, %v) = %v, but the distances stay the same: %v", b, further, follows, same)
			}
			if follows {
				implied++
			} else {
				nearer++
			}
		}
	})
	if implied < 400 || nearer < 400 || contradictions < 200 {
		t.Errorf("%d were implied, %d not, and %d were contradictions", implied, nearer, contradictions)
	}
}

// P9.7

func TestMovedSituations(t *testing.T) {
	consistent(19, func(r *rand.Rand, b api.Between, x []int) {
		for _, by := range []int{1, -1, 1000, -1000000000, 999000000000, -999000000000, 1000000000000, -1000000000000, 2000000000001} {
			var moved []int
			for _, value := range x {
				moved = append(moved, value+by)
			}
			checkAllowed(t, b, moved, max(slices.Max(moved), -slices.Min(moved)) <= 1000000000000)
		}
	})
}

// mirrored returns b with From and To of all bounds exchanged.
func mirrored(b api.Between) api.Between {
	m := api.Between{N: b.N}
	for _, x := range b.Bounds {
		m.Bounds = append(m.Bounds, bound(x.To, x.From, x.Most))
	}
	return m
}

// opposite returns x with the opposite values.
func opposite(x []int) []int {
	var y []int
	for _, value := range x {
		y = append(y, -value)
	}
	return y
}

// transposed returns the distances in the opposite direction.
func transposed(distances [][]int) [][]int {
	var rows [][]int
	for i := range distances {
		var row []int
		for k := range distances {
			row = append(row, distances[k][i])
		}
		rows = append(rows, row)
	}
	return rows
}

func TestMirroredBounds(t *testing.T) {
	consistent(20, func(r *rand.Rand, b api.Between, x []int) {
		for _, y := range others(t, r, b, x) {
			checkAllowed(t, mirrored(b), opposite(y), true)
			y[r.IntN(b.N)] += r.IntN(400) - 200
			checkAllowed(t, mirrored(b), opposite(y), keeps(b, y))
		}
		distances, _ := between.Close(b)
		checkClose(t, mirrored(b), transposed(distances))
	})
	small(3, 2, 1, func(b api.Between) {
		if distances, err := between.Close(b); err == api.OK {
			checkClose(t, mirrored(b), transposed(distances))
		} else {
			checkNone(t, mirrored(b))
		}
	})
}

package clock_test

import (
	"math"
	"math/rand/v2"
	"slices"
	"testing"

	"putlog/api"
	"putlog/clock"
)

// The functions in this part say the definitions of the chapter again.

// fits reports whether a clock may advance by n local seconds in x true seconds.
func fits(drift, n, x int) bool {
	return (1000-drift)*x-1000 < 1000*n && 1000*n < (1000+drift)*x+1000
}

// possible reports whether a clock may show local at s, if it has shown r.Local at a second from r.Low to r.High.
func possible(drift int, r api.Reading, local, s int) bool {
	for seen := r.Low; seen <= r.High; seen++ {
		switch {
		case local > r.Local && s >= seen && fits(drift, local-r.Local, s-seen),
			local < r.Local && s <= seen && fits(drift, r.Local-local, seen-s),
			local == r.Local && (fits(drift, 0, s-seen) && s >= seen || fits(drift, 0, seen-s) && s <= seen):
			return true
		}
	}
	return false
}

// bounds returns those that r gives, not limited by 0 and MaxTime.
func bounds(drift int, r api.Reading, local int) (int, int) {
	x, y := clock.Spread(drift, max(local-r.Local, r.Local-local))
	switch {
	case local > r.Local:
		return r.Low + x, r.High + y
	case local < r.Local:
		return r.Low - y, r.High - x
	}
	return r.Low - y, r.High + y
}

// at returns the greatest of the lower bounds and the least of the upper ones, and whether the first is not the greater one.
func at(c api.Clock, local int) (int, int, bool) {
	first, last := 0, api.MaxTime
	for _, r := range c.Readings {
		low, high := bounds(c.Drift, r, local)
		first, last = max(first, low), min(last, high)
	}
	return first, last, first <= last
}

// The functions in this part make arguments.

func of(drift int, readings ...api.Reading) api.Clock {
	return api.Clock{Drift: drift, Readings: readings}
}

// random returns a valid clock with some readings, whose numbers are all less than span; the readings need not agree with each other.
func random(r *rand.Rand, span int) api.Clock {
	c := of([]int{0, 1, 50, 99, 100, r.IntN(101)}[r.IntN(6)])
	var locals []int
	for range r.IntN(5) * r.IntN(4) {
		locals = append(locals, r.IntN(span))
	}
	slices.Sort(locals)
	for _, local := range slices.Compact(locals) {
		low := r.IntN(span)
		c.Readings = append(c.Readings, api.Reading{Local: local, Low: low, High: low + r.IntN(min(span-low, 1+span/(1+r.IntN(20))))})
	}
	return c
}

// steady returns a valid clock whose readings mostly agree with each other, as they lie near one line.
func steady(r *rand.Rand, span int) api.Clock {
	c := random(r, span)
	slope := 1000 + r.IntN(2*c.Drift+1) - c.Drift
	for i := range c.Readings {
		x := &c.Readings[i]
		on, wide := x.Local*slope/1000, 1+r.IntN(1+span/10)
		x.Low = min(max(0, on-r.IntN(wide)), api.MaxTime)
		x.High = min(max(x.Low, on+r.IntN(wide)), api.MaxTime)
	}
	return c
}

// clocks calls check for many valid clocks of all sizes.
func clocks(t *testing.T, seed uint64, check func(r *rand.Rand, c api.Clock, span int)) {
	t.Helper()
	r := rand.New(rand.NewPCG(5, seed))
	for i := range 3000 {
		span := []int{12, 40, 1000, 100000, api.MaxTime + 1}[i%5]
		c := steady(r, span)
		if r.IntN(4) == 0 {
			c = random(r, span)
		}
		if !clock.Valid(c) {
			t.Fatalf("%v is not valid", c)
		}
		check(r, c, span)
	}
}

// line returns so many readings, each of which says that local and true seconds are the same.
func line(many int) []api.Reading {
	var l []api.Reading
	for i := range many {
		l = append(l, api.Reading{Local: i, Low: i, High: i})
	}
	return l
}

func invalid() []api.Clock {
	reading := func(local, low, high int) api.Clock { return of(1, api.Reading{Local: local, Low: low, High: high}) }
	return []api.Clock{
		of(-1), of(101), of(math.MinInt), of(math.MaxInt), of(-1, line(1)...), of(101, line(1)...),
		of(0, line(13)...), of(0, line(1000)...),
		reading(-1, 0, 0), reading(api.MaxTime+1, 0, 0), reading(math.MinInt, 0, 0), reading(math.MaxInt, 0, 0),
		reading(5, -1, 0), reading(5, -1, -1), reading(5, math.MinInt, 0), reading(5, math.MinInt, math.MaxInt), reading(5, 1, 0), reading(5, 0, -1), reading(5, math.MaxInt, math.MinInt),
		reading(5, 0, api.MaxTime+1), reading(5, 0, math.MaxInt), reading(5, api.MaxTime+1, api.MaxTime+1), reading(5, api.MaxTime, api.MaxTime-1),
		of(0, api.Reading{Local: 3}, api.Reading{Local: 3}), of(0, api.Reading{Local: 3}, api.Reading{Local: 2}), of(0, api.Reading{Local: 3}, api.Reading{Local: 5}, api.Reading{Local: 4}),
		of(0, api.Reading{Local: 3}, api.Reading{Local: 5}, api.Reading{Local: 3}), of(0, api.Reading{Local: 3}, api.Reading{Local: 3, Low: 1, High: 1}), of(0, append(line(3), api.Reading{Local: 3, Low: 2, High: 1})...),
	}
}

func beyond(most int) []int {
	return []int{-1, -2, math.MinInt, most + 1, most + 2, math.MaxInt}
}

// example is the clock of the chapter's examples.
func example() api.Clock { return of(100, api.Reading{Local: 1000, Low: 2000, High: 2010}) }

func checkAt(t *testing.T, c api.Clock, local, first, last int) {
	t.Helper()
	if a, b, err := clock.At(c, local); a != first || b != last || err != api.OK {
		t.Errorf("At(%v, %d) = %d, %d, %d; want %d, %d", c, local, a, b, err, first, last)
	}
}

func checkNever(t *testing.T, c api.Clock, local int) {
	t.Helper()
	if a, b, err := clock.At(c, local); a != 0 || b != 0 || err != api.ErrClock {
		t.Errorf("At(%v, %d) = %d, %d, %d; want ErrClock", c, local, a, b, err)
	}
}

func checkReads(t *testing.T, c api.Clock, s, least, greatest int) {
	t.Helper()
	if a, b, err := clock.Reads(c, s); a != least || b != greatest || err != api.OK {
		t.Errorf("Reads(%v, %d) = %d, %d, %d; want %d, %d", c, s, a, b, err, least, greatest)
	}
}

func checkReadsNothing(t *testing.T, c api.Clock, s int) {
	t.Helper()
	if a, b, err := clock.Reads(c, s); a != 0 || b != 0 || err != api.ErrClock {
		t.Errorf("Reads(%v, %d) = %d, %d, %d; want ErrClock", c, s, a, b, err)
	}
}

// P5.1: Valid

func TestValid(t *testing.T) {
	most := api.MaxTime
	for _, c := range []api.Clock{
		{}, of(0), of(100), {Drift: 7, Readings: []api.Reading{}}, example(), of(0, line(12)...), of(100, line(12)...),
		of(1, api.Reading{}), of(1, api.Reading{Local: most, Low: most, High: most}), of(1, api.Reading{Low: 0, High: most}),
		of(1, api.Reading{Local: 0, Low: most, High: most}, api.Reading{Local: 1}, api.Reading{Local: most, Low: 5, High: 5}),
	} {
		if !clock.Valid(c) {
			t.Errorf("Valid(%v) = false", c)
		}
	}
	for _, c := range invalid() {
		if clock.Valid(c) {
			t.Errorf("Valid(%v) = true", c)
		}
	}
	for drift := -300; drift <= 300; drift++ {
		if got, want := clock.Valid(of(drift)), drift >= 0 && drift <= 100; got != want {
			t.Errorf("Valid with the drift %d = %t", drift, got)
		}
	}
}

// P5.1 and P5.3: Spread

func TestSpreadExamples(t *testing.T) {
	for _, c := range []struct{ drift, n, least, greatest int }{
		{0, 7, 7, 7}, {100, 0, 0, 1}, {100, 110, 100, 123}, {0, 0, 0, 0}, {1, 0, 0, 1}, {0, 1, 1, 1}, {1, 1, 1, 2}, {100, 1, 1, 2}, {100, 2, 1, 3}, {1, 2, 1, 3}, {1, 1000, 999, 1002}, {1, 1001, 1000, 1003}, {1, 1002, 1001, 1004}, {1, 1003, 1001, 1005},
		{0, api.MaxTime, api.MaxTime, api.MaxTime}, {100, api.MaxTime, 9090909, 11111112}, {1, api.MaxTime, 9990009, 10010011},
	} {
		if least, greatest := clock.Spread(c.drift, c.n); least != c.least || greatest != c.greatest {
			t.Errorf("Spread(%d, %d) = %d, %d; want %d, %d", c.drift, c.n, least, greatest, c.least, c.greatest)
		}
	}
}

func TestSpreadIsExact(t *testing.T) {
	for drift := 0; drift <= api.MaxDrift; drift++ {
		for n := range 120 {
			least, greatest := clock.Spread(drift, n)
			for x := range 2*n + 10 {
				if fits(drift, n, x) != (least <= x && x <= greatest) {
					t.Fatalf("Spread(%d, %d) = %d, %d, but the inequality for %d is %t", drift, n, least, greatest, x, fits(drift, n, x))
				}
			}
		}
	}
}

func checkEnds(t *testing.T, drift, n int) {
	t.Helper()
	least, greatest := clock.Spread(drift, n)
	// Each half of the inequality holds up to, or from, some number on.
	if !fits(drift, n, least) || !fits(drift, n, greatest) || fits(drift, n, greatest+1) || least > 0 && fits(drift, n, least-1) || least < 0 || least > n || greatest < n {
		t.Fatalf("Spread(%d, %d) = %d, %d", drift, n, least, greatest)
	}
}

func TestSpreadIsExactForGreatNumbers(t *testing.T) {
	r := rand.New(rand.NewPCG(5, 1))
	for drift := 0; drift <= api.MaxDrift; drift++ {
		for i := range 1500 {
			checkEnds(t, drift, i)
			checkEnds(t, drift, api.MaxTime-i)
			checkEnds(t, drift, r.IntN(api.MaxTime+1))
		}
	}
}

func TestSpreadGrows(t *testing.T) {
	check := func(drift, n int) {
		least, greatest := clock.Spread(drift, n)
		if drift == 0 && (least != n || greatest != n) {
			t.Fatalf("Spread(0, %d) = %d, %d", n, least, greatest)
		}
		if n < api.MaxTime {
			if a, b := clock.Spread(drift, n+1); a < least || b < greatest {
				t.Fatalf("with the drift %d, %d: %d, %d; for one more: %d, %d", drift, n, least, greatest, a, b)
			}
		}
		if drift < api.MaxDrift {
			if a, b := clock.Spread(drift+1, n); a > least || b < greatest {
				t.Fatalf("with the drift %d, %d: %d, %d; with a greater one: %d, %d", drift, n, least, greatest, a, b)
			}
		}
	}
	for drift := 0; drift <= api.MaxDrift; drift++ {
		for n := range 3000 {
			check(drift, n)
			check(drift, api.MaxTime-n)
		}
	}
}

func TestSpreadRefused(t *testing.T) {
	check := func(drift, n int) {
		t.Helper()
		if a, b := clock.Spread(drift, n); a != 0 || b != 0 {
			t.Errorf("Spread(%d, %d) = %d, %d", drift, n, a, b)
		}
	}
	for _, drift := range beyond(api.MaxDrift) {
		for _, n := range append(beyond(api.MaxTime), 0, 1, 7, api.MaxTime) {
			check(drift, n)
		}
	}
	check(1000, 7)
	check(-1000, 7)
	for _, n := range beyond(api.MaxTime) {
		check(0, n)
		check(50, n)
		check(api.MaxDrift, n)
	}
}

// P5.1: At

func TestAtExamples(t *testing.T) {
	most := api.MaxTime
	checkAt(t, example(), 1110, 2100, 2133)
	checkAt(t, example(), 890, 1877, 1910)
	// The same local second may be shown before the reading, too, and not only after it.
	checkAt(t, example(), 1000, 1999, 2011)
	checkAt(t, example(), 1001, 2001, 2012)
	checkAt(t, example(), 999, 1998, 2009)
	exact := of(0, api.Reading{Local: 1000, Low: 2000, High: 2010})
	checkAt(t, exact, 1000, 2000, 2010)
	checkAt(t, exact, 1001, 2001, 2011)
	checkAt(t, exact, 0, 1000, 1010)
	// Without readings, the true second may be any one.
	for _, local := range []int{0, 5, most} {
		checkAt(t, of(0), local, 0, most)
		checkAt(t, api.Clock{Drift: 100, Readings: []api.Reading{}}, local, 0, most)
	}
	// Several readings narrow each other, from both sides.
	checkAt(t, of(100, api.Reading{Local: 1000, Low: 2000, High: 2010}, api.Reading{Local: 1200, Low: 2190, High: 2230}), 1110, 2100, 2133)
	checkAt(t, of(100, api.Reading{Local: 1000, Low: 2000, High: 2010}, api.Reading{Local: 1120, Low: 2125, High: 2126}), 1110, 2113, 2117)
	checkAt(t, of(0, api.Reading{Local: 0, Low: 0, High: 10}, api.Reading{Local: 5, Low: 15, High: 25}), 7, 17, 17)
	checkNever(t, of(0, api.Reading{Local: 0, Low: 0, High: 10}, api.Reading{Local: 5, Low: 16, High: 25}), 7)
}

func TestAtTheLimits(t *testing.T) {
	most := api.MaxTime
	checkAt(t, of(0, api.Reading{Local: 10, Low: 3, High: 20}), 5, 0, 15)
	checkAt(t, of(0, api.Reading{Local: 10, Low: 3, High: 5}), 5, 0, 0)
	checkNever(t, of(0, api.Reading{Local: 10, Low: 3, High: 5}), 4)
	checkNever(t, of(100, api.Reading{Local: most, Low: 0, High: 0}), 0)
	checkAt(t, of(0, api.Reading{Local: 10, Low: most - 20, High: most - 3}), 15, most-15, most)
	checkAt(t, of(0, api.Reading{Local: 10, Low: most - 5, High: most - 3}), 15, most, most)
	checkNever(t, of(0, api.Reading{Local: 10, Low: most - 5, High: most - 3}), 16)
	checkNever(t, of(100, api.Reading{Local: 0, Low: most, High: most}), most)
	checkAt(t, of(100, api.Reading{Local: 0, Low: 0, High: 0}), 0, 0, 1)
	checkAt(t, of(100, api.Reading{Local: most, Low: most, High: most}), most, most-1, most)
	checkAt(t, of(100, api.Reading{Local: 0, Low: 0, High: 0}), most, 9090909, most)
	checkAt(t, of(100, api.Reading{Local: most, Low: most, High: most}), 0, 0, most-9090909)
	checkAt(t, of(0, api.Reading{Local: 0, Low: 0, High: 0}), most, most, most)
	checkAt(t, of(0, api.Reading{Local: most, Low: most, High: most}), 0, 0, 0)
	for _, local := range []int{0, 5, 11, most} {
		checkAt(t, of(0, line(12)...), local, local, local)
	}
}

func TestAtRefused(t *testing.T) {
	for _, c := range invalid() {
		for _, local := range []int{-1, 0, 3, 5, api.MaxTime, api.MaxTime + 1} {
			checkNever(t, c, local)
		}
	}
	for _, local := range beyond(api.MaxTime) {
		checkNever(t, of(0), local)
		checkNever(t, example(), local)
		checkNever(t, of(100, api.Reading{Local: 0, Low: 0, High: api.MaxTime}, api.Reading{Local: api.MaxTime, Low: 0, High: api.MaxTime}), local)
	}
}

// At returns the first and the last one of the seconds that are possible second by second.
func TestAtOfSmallClocks(t *testing.T) {
	r := rand.New(rand.NewPCG(5, 2))
	never := 0
	for i := range 6000 {
		c := steady(r, 30)
		if i%4 == 0 {
			c = random(r, 30)
		}
		local := r.IntN(40)
		var seconds []int
		for s := range 90 {
			if !slices.ContainsFunc(c.Readings, func(x api.Reading) bool { return !possible(c.Drift, x, local, s) }) {
				seconds = append(seconds, s)
			}
		}
		switch {
		case len(seconds) == 0:
			never++
			checkNever(t, c, local)
		case len(c.Readings) == 0:
			checkAt(t, c, local, 0, api.MaxTime)
		default:
			checkAt(t, c, local, seconds[0], seconds[len(seconds)-1])
		}
	}
	if never < 100 || never > 5000 {
		t.Errorf("no second is possible in %d cases", never)
	}
}

func TestAtOfAllSizes(t *testing.T) {
	ok, all := 0, 0
	clocks(t, 3, func(r *rand.Rand, c api.Clock, span int) {
		locals := []int{0, api.MaxTime, r.IntN(span), r.IntN(span)}
		for _, x := range c.Readings {
			locals = append(locals, max(0, x.Local-1), x.Local, min(x.Local+1, api.MaxTime))
		}
		for _, local := range locals {
			first, last, some := at(c, local)
			all++
			if some {
				ok++
				checkAt(t, c, local, first, last)
			} else {
				checkNever(t, c, local)
			}
		}
	})
	if ok < all/10 || ok > all*9/10 {
		t.Errorf("%d of %d calls return no error", ok, all)
	}
}

// P5.1: Before and After

func TestBeforeAndAfter(t *testing.T) {
	check := func(c api.Clock, local, s int, before, after bool) {
		t.Helper()
		if got := clock.Before(c, local, s); got != before {
			t.Errorf("Before(%v, %d, %d) = %t", c, local, s, got)
		}
		if got := clock.After(c, local, s); got != after {
			t.Errorf("After(%v, %d, %d) = %t", c, local, s, got)
		}
	}
	c := example()
	check(c, 1110, 2099, false, true)
	check(c, 1110, 2100, false, false)
	check(c, 1110, 2133, false, false)
	check(c, 1110, 2134, true, false)
	check(c, 1110, math.MinInt, false, true)
	check(c, 1110, -1, false, true)
	check(c, 1110, math.MaxInt, true, false)
	check(c, 1110, api.MaxTime+1, true, false)
	check(of(3), 7, -1, false, true)
	check(of(3), 7, 0, false, false)
	check(of(3), 7, api.MaxTime, false, false)
	check(of(3), 7, api.MaxTime+1, true, false)
	// There is no second before or after which something is that is not valid, or never shown.
	never := of(0, api.Reading{Local: 1, Low: 0, High: 0}, api.Reading{Local: 2, Low: 9, High: 9})
	for _, s := range []int{math.MinInt, -1, 0, 1, 5, api.MaxTime, api.MaxTime + 1, math.MaxInt} {
		check(never, 1, s, false, false)
		for _, c := range invalid() {
			check(c, 5, s, false, false)
		}
		for _, local := range beyond(api.MaxTime) {
			check(example(), local, s, false, false)
		}
	}
}

func TestBeforeAndAfterOfAllSizes(t *testing.T) {
	clocks(t, 4, func(r *rand.Rand, c api.Clock, span int) {
		local := r.IntN(span)
		first, last, ok := at(c, local)
		for _, s := range []int{first - 1, first, first + 1, last - 1, last, last + 1, r.IntN(span), -1, api.MaxTime + 1} {
			if before, after := clock.Before(c, local, s), clock.After(c, local, s); before != (ok && last < s) || after != (ok && first > s) {
				t.Fatalf("%v shows %d from %d to %d (%t): before %d %t, after it %t", c, local, first, last, ok, s, before, after)
			}
		}
	})
}

// P5.1 and P5.5: Reads

func TestReadsExamples(t *testing.T) {
	most := api.MaxTime
	checkReads(t, example(), 2005, 994, 1006)
	checkReads(t, of(0, line(1)...), 7, 7, 7)
	checkReads(t, of(0, line(12)...), most, most, most)
	for _, s := range []int{0, 1, most} {
		checkReads(t, of(100), s, 0, most)
	}
	checkReads(t, of(0, api.Reading{Local: 10, Low: 0, High: 10}), 0, 0, 10)
	checkReads(t, of(0, api.Reading{Local: 10, Low: 3, High: 10}), 0, 0, 7)
	checkReads(t, of(0, api.Reading{Local: most - 10, Low: most - 10, High: most - 3}), most, most-7, most)
	checkReads(t, of(0, api.Reading{Local: 0, Low: 0, High: most}), 5, 0, 5)
	checkReads(t, of(0, api.Reading{Local: most, Low: 0, High: most}), 5, 5, most)
	checkReads(t, of(0, api.Reading{Local: 5, Low: 8, High: 8}), 3, 0, 0)
	checkReadsNothing(t, of(0, api.Reading{Local: 5, Low: 8, High: 8}), 2)
	checkReads(t, of(0, api.Reading{Local: most - 5, Low: most - 8, High: most - 8}), most-3, most, most)
	checkReadsNothing(t, of(0, api.Reading{Local: most - 5, Low: most - 8, High: most - 8}), most-2)
	// The readings contradict each other.
	checkReadsNothing(t, of(100, api.Reading{Local: 10, Low: 50, High: 50}, api.Reading{Local: 20, Low: 40, High: 40}), 45)
	checkReadsNothing(t, of(100, api.Reading{Local: 10, Low: 50, High: 50}, api.Reading{Local: 11, Low: 90, High: 90}), 70)
}

func TestReadsRefused(t *testing.T) {
	for _, c := range invalid() {
		for _, s := range []int{-1, 0, 3, 5, api.MaxTime, api.MaxTime + 1} {
			checkReadsNothing(t, c, s)
		}
	}
	for _, s := range beyond(api.MaxTime) {
		checkReadsNothing(t, of(0), s)
		checkReadsNothing(t, example(), s)
		checkReadsNothing(t, of(100, api.Reading{Local: 0, Low: 0, High: api.MaxTime}, api.Reading{Local: api.MaxTime, Low: 0, High: api.MaxTime}), s)
	}
}

// checkBoth checks that local is one of those that Reads returns for s exactly if s is one of those that At returns for local.
func checkBoth(t *testing.T, c api.Clock, local, s int) {
	t.Helper()
	least, greatest, err := clock.Reads(c, s)
	first, last, alsoErr := clock.At(c, local)
	if (err == api.OK && least <= local && local <= greatest) != (alsoErr == api.OK && first <= s && s <= last) {
		t.Fatalf("%v: at %d it reads from %d to %d (%d), but %d from %d to %d (%d)", c, s, least, greatest, err, local, first, last, alsoErr)
	}
}

func TestReadsAndAtOfSmallClocks(t *testing.T) {
	r := rand.New(rand.NewPCG(5, 5))
	for range 150 {
		c := steady(r, 30)
		for local := range 45 {
			for s := range 45 {
				checkBoth(t, c, local, s)
			}
		}
	}
}

func TestReadsAndAtOfAllSizes(t *testing.T) {
	clocks(t, 6, func(r *rand.Rand, c api.Clock, span int) {
		for _, s := range []int{0, api.MaxTime, r.IntN(span), r.IntN(span)} {
			least, greatest, _ := clock.Reads(c, s)
			for _, local := range []int{0, api.MaxTime, least - 1, least, greatest, greatest + 1, (least + greatest) / 2, r.IntN(span)} {
				if local >= 0 && local <= api.MaxTime {
					checkBoth(t, c, local, s)
				}
			}
		}
		local := r.IntN(span)
		first, last, ok := at(c, local)
		for _, s := range []int{first - 1, first, (first + last) / 2, last, last + 1} {
			if ok && s >= 0 && s <= api.MaxTime {
				checkBoth(t, c, local, s)
			}
		}
	})
}

// Each local second there is, one after the other.
func TestReadsOfAllLocalSeconds(t *testing.T) {
	middle := api.MaxTime / 2
	for _, c := range []api.Clock{
		of(100, api.Reading{Local: middle, Low: middle - 1000, High: middle + 1000}),
		of(37, api.Reading{Local: 100, Low: 90, High: 5000}, api.Reading{Local: api.MaxTime, Low: api.MaxTime - 300000, High: api.MaxTime}),
	} {
		for _, s := range []int{4800000, 0} {
			least, greatest, many := 0, 0, 0
			for local := 0; local <= api.MaxTime; local++ {
				if first, last, ok := at(c, local); ok && first <= s && s <= last {
					if many == 0 {
						least = local
					}
					greatest = local
					many++
				}
			}
			if many == 0 {
				checkReadsNothing(t, c, s)
			} else if checkReads(t, c, s, least, greatest); many != greatest-least+1 {
				t.Errorf("%v reads at %d %d seconds from %d to %d", c, s, many, least, greatest)
			}
		}
	}
}

// P5.4

// changed returns c with one more reading, or with one that says more than before.
func changed(r *rand.Rand, c api.Clock, span int) api.Clock {
	c.Readings = slices.Clone(c.Readings)
	low := r.IntN(span)
	more := api.Reading{Local: r.IntN(span), Low: low, High: low + r.IntN(span-low)}
	place, known := slices.BinarySearchFunc(c.Readings, more, func(a, b api.Reading) int { return a.Local - b.Local })
	if !known && (len(c.Readings) == 0 || len(c.Readings) < api.MaxReadings && r.IntN(2) == 0) {
		c.Readings = slices.Insert(c.Readings, place, more)
		return c
	}
	x := &c.Readings[r.IntN(len(c.Readings))]
	width := x.High - x.Low
	switch r.IntN(2) {
	case 0:
		x.Low += r.IntN(width + 1)
	default:
		x.High -= r.IntN(width + 1)
	}
	return c
}

func TestFurtherReadingsDoNotWiden(t *testing.T) {
	narrower, nothing, all := 0, 0, 0
	clocks(t, 7, func(r *rand.Rand, c api.Clock, span int) {
		more := changed(r, c, span)
		for _, local := range []int{0, r.IntN(span), r.IntN(span), api.MaxTime} {
			first, last, err := clock.At(c, local)
			a, b, errAfter := clock.At(more, local)
			if err != api.OK && errAfter == api.OK || errAfter == api.OK && (a < first || b > last) {
				t.Fatalf("At(%v, %d) = %d, %d, %d; but At(%v, %d) = %d, %d, %d", c, local, first, last, err, more, local, a, b, errAfter)
			}
			all++
			switch {
			case err == api.OK && errAfter != api.OK:
				nothing++
			case a > first || b < last:
				narrower++
			}
		}
	})
	if narrower < all/20 || nothing < all/20 {
		t.Errorf("of %d results, %d were narrowed, and %d became errors", all, narrower, nothing)
	}
}

// P5.7

func TestMovedReadings(t *testing.T) {
	compared := 0
	clocks(t, 8, func(r *rand.Rand, c api.Clock, span int) {
		if len(c.Readings) == 0 {
			return
		}
		low, high := api.MaxTime, 0
		for _, x := range c.Readings {
			low, high = min(low, x.Low), max(high, x.High)
		}
		by := r.IntN(api.MaxTime-high+low+1) - low
		if r.IntN(2) == 0 {
			by = min(r.IntN(span), api.MaxTime-high)
		}
		moved := api.Clock{Drift: c.Drift, Readings: slices.Clone(c.Readings)}
		for i := range moved.Readings {
			moved.Readings[i].Low += by
			moved.Readings[i].High += by
		}
		for _, local := range []int{r.IntN(span), r.IntN(span), c.Readings[0].Local} {
			first, last, err := clock.At(c, local)
			a, b, errMoved := clock.At(moved, local)
			if err != api.OK || errMoved != api.OK || min(first, a) == 0 || max(last, b) == api.MaxTime {
				continue
			}
			compared++
			if a != first+by || b != last+by {
				t.Fatalf("At(%v, %d) = %d, %d; moved by %d: %d, %d", c, local, first, last, by, a, b)
			}
		}
	})
	if compared < 1000 {
		t.Errorf("only %d cases", compared)
	}
}

// R3

func TestArgumentsAreNotModified(t *testing.T) {
	space := make([]api.Reading, 2, 5)
	space[0], space[1] = api.Reading{Local: 5, Low: 6, High: 7}, api.Reading{Local: 9, Low: 9, High: 12}
	space = append(space, api.Reading{Local: 1, Low: 2, High: 3})[:2]
	c, whole := api.Clock{Drift: 9, Readings: space}, slices.Clone(space[:cap(space)])
	clock.Valid(c)
	clock.At(c, 7)
	clock.Before(c, 7, 7)
	clock.After(c, 7, 7)
	clock.Reads(c, 7)
	if !slices.Equal(space[:cap(space)], whole) {
		t.Errorf("%v, %v", space[:cap(space)], whole)
	}
}

// numbers returns those that are written in the bytes of s, each with three of them, and with its sign.
func numbers(s []byte) []int {
	var l []int
	for ; len(s) >= 3; s = s[3:] {
		l = append(l, int(int8(s[2]))<<16+int(s[1])<<8+int(s[0]))
	}
	return l
}

func FuzzClock(f *testing.F) {
	f.Add(100, 1110, 2005, []byte{232, 3, 0, 208, 7, 0, 218, 7, 0})
	f.Add(0, 7, 17, []byte{0, 0, 0, 0, 0, 0, 10, 0, 0, 5, 0, 0, 15, 0, 0, 25, 0, 0})
	f.Add(-1, api.MaxTime+1, -1, []byte{1, 0, 0, 3, 0, 0, 2, 0, 0})
	f.Fuzz(func(t *testing.T, drift, local, s int, readings []byte) {
		c := of(drift)
		ok := drift >= 0 && drift <= api.MaxDrift
		l := numbers(readings)
		for ; len(l) >= 3; l = l[3:] {
			c.Readings = append(c.Readings, api.Reading{Local: l[0], Low: l[1], High: l[2]})
			ok = ok && l[0] >= 0 && l[1] >= 0 && l[2] >= l[1] && max(l[0], l[2]) <= api.MaxTime
		}
		for i := range max(0, len(c.Readings)-1) {
			ok = ok && c.Readings[i].Local < c.Readings[i+1].Local
		}
		if ok = ok && len(c.Readings) <= api.MaxReadings; clock.Valid(c) != ok {
			t.Fatalf("Valid(%v) = %t", c, !ok)
		}
		first, last, some := 0, 0, false
		if ok && local >= 0 && local <= api.MaxTime {
			first, last, some = at(c, local)
		}
		if some {
			checkAt(t, c, local, first, last)
		} else {
			checkNever(t, c, local)
		}
		if clock.Before(c, local, s) != (some && last < s) || clock.After(c, local, s) != (some && first > s) {
			t.Fatalf("%v shows %d from %d to %d (%t): not before or not after %d", c, local, first, last, some, s)
		}
		if !ok || s < 0 || s > api.MaxTime {
			checkReadsNothing(t, c, s)
			return
		}
		least, greatest, _ := clock.Reads(c, s)
		for _, x := range []int{local, least - 1, least, greatest, greatest + 1} {
			checkBoth(t, c, min(max(0, x), api.MaxTime), s)
		}
	})
}

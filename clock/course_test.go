package clock_test

import (
	"math/rand/v2"
	"slices"
	"testing"

	"putlog/api"
	"putlog/clock"
)

// P5.2

// course is what a clock with a drift shows at true seconds: one that has drifted for long, at one rate or another, before the second 0.
type course struct {
	drift int
	shows func(s int) int
}

// check checks that it is a course, as far as these seconds, which ascend, are concerned.
func (c course) check(t *testing.T, seconds []int) {
	t.Helper()
	for i, s := range seconds {
		for _, earlier := range seconds[:i] {
			if !fits(c.drift, c.shows(s)-c.shows(earlier), s-earlier) {
				t.Fatalf("with the drift %d, not a course: %d at %d, %d at %d", c.drift, c.shows(earlier), earlier, c.shows(s), s)
			}
		}
	}
}

// bent returns the course of a clock that has the first rate (in thousandths) up to the second bend, and then the second one; start is what it has by the second 0, in thousandths.
func bent(drift, start, bend, rate, later int) course {
	return course{drift, func(s int) int {
		sum := start + rate*min(s, bend) + later*max(0, s-bend)
		// The quotient of a negative number would be rounded up.
		return (sum+1000*1000*api.MaxTime)/1000 - 1000*api.MaxTime
	}}
}

// listed returns a course that shows these seconds, from the true second 0 on.
func listed(drift int, shows []int) course {
	return course{drift, func(s int) int { return shows[s] }}
}

// stepped returns the course of a clock that has another rate each second, as choose says, for the first seconds.
func stepped(drift, start, seconds int, choose func() int) course {
	var shows []int
	for range seconds {
		shows = append(shows, start/1000)
		start += choose()
	}
	return listed(drift, shows)
}

// grown returns a course for the first seconds of which nothing is known but that the definition holds for each two of them.
func grown(r *rand.Rand, drift, start, seconds int) course {
	shows := []int{start}
	for s := 1; s < seconds; s++ {
		var next []int
		for by := range 4 {
			n := shows[s-1] + by
			good := true
			for earlier, shown := range shows {
				good = good && fits(drift, n-shown, s-earlier)
			}
			if good {
				next = append(next, n)
			}
		}
		if len(next) == 0 {
			return grown(r, drift, start, seconds)
		}
		shows = append(shows, next[r.IntN(len(next))])
	}
	return listed(drift, shows)
}

// reading returns one of the clock with the course c, made at the second s.
func (c course) reading(r *rand.Rand, s, inexact int) api.Reading {
	return api.Reading{Local: c.shows(s), Low: max(0, s-r.IntN(inexact)), High: min(s+r.IntN(inexact), api.MaxTime)}
}

// clock returns one with which c agrees, with readings made at some of these seconds.
func (c course) clock(r *rand.Rand, seconds []int, inexact int) api.Clock {
	k := of(c.drift)
	for range r.IntN(api.MaxReadings + 1) {
		x := c.reading(r, seconds[r.IntN(len(seconds))], inexact)
		place, known := slices.BinarySearchFunc(k.Readings, x, func(a, b api.Reading) int { return a.Local - b.Local })
		if !known && x.Local >= 0 && x.Local <= api.MaxTime {
			k.Readings = slices.Insert(k.Readings, place, x)
		}
	}
	return k
}

// checkSound checks what is said of a clock with which the course c agrees, for what it shows at s.
func (c course) checkSound(t *testing.T, k api.Clock, s int) {
	t.Helper()
	local := c.shows(s)
	if local < 0 || local > api.MaxTime {
		return
	}
	if first, last, err := clock.At(k, local); err != api.OK || s < first || s > last {
		t.Fatalf("%v shows %d at %d, but At returns %d, %d, %d", k, local, s, first, last, err)
	}
	if least, greatest, err := clock.Reads(k, s); err != api.OK || local < least || local > greatest {
		t.Fatalf("%v shows %d at %d, but Reads returns %d, %d, %d", k, local, s, least, greatest, err)
	}
	for _, other := range []int{s - 1000, s - 100, s - 2, s - 1, s, s + 1, s + 2, s + 100, s + 1000, -1, 0, api.MaxTime, api.MaxTime + 1} {
		if clock.Before(k, local, other) && s >= other || clock.After(k, local, other) && s <= other {
			t.Fatalf("%v shows %d at %d; before %d: %t; after it: %t", k, local, s, other, clock.Before(k, local, other), clock.After(k, local, other))
		}
	}
}

func drifts(r *rand.Rand) int { return []int{0, 1, 10, 99, 100, r.IntN(101)}[r.IntN(6)] }

func TestSoundForSmallCourses(t *testing.T) {
	const seconds = 60
	var all []int
	for s := range seconds {
		all = append(all, s)
	}
	r := rand.New(rand.NewPCG(5, 10))
	for i := range 1200 {
		drift := drifts(r)
		anyRate := func() int { return 1000 - drift + r.IntN(2*drift+1) }
		fastOrSlow := func() int { return 1000 - drift + 2*drift*r.IntN(2) }
		var c course
		switch i % 4 {
		case 0:
			c = stepped(drift, r.IntN(20000), seconds, anyRate)
		case 1:
			c = stepped(drift, r.IntN(20000), seconds, fastOrSlow)
		case 2:
			c = bent(drift, r.IntN(40000)-20000, r.IntN(seconds), fastOrSlow(), fastOrSlow())
		case 3:
			c = grown(r, drift, r.IntN(20), seconds)
		}
		c.check(t, all)
		k := c.clock(r, all, 1+i%3)
		for _, s := range all {
			c.checkSound(t, k, s)
		}
	}
}

func TestSoundForGreatCourses(t *testing.T) {
	r := rand.New(rand.NewPCG(5, 11))
	for range 1500 {
		drift := drifts(r)
		fastOrSlow := func() int { return 1000 - drift + 2*drift*r.IntN(2) }
		seconds := []int{0, api.MaxTime}
		for range 12 {
			s := r.IntN(api.MaxTime)
			seconds = append(seconds, s, s+1)
		}
		slices.Sort(seconds)
		start := []int{0, -500, -999, r.IntN(1000), -1000 * r.IntN(api.MaxTime), 1000 * r.IntN(api.MaxTime)}[r.IntN(6)]
		c := bent(drift, start, r.IntN(api.MaxTime), fastOrSlow(), fastOrSlow())
		seconds = slices.Compact(seconds)
		c.check(t, seconds)
		k := c.clock(r, seconds, []int{1, 2, 1000, api.MaxTime}[r.IntN(4)])
		for _, s := range seconds {
			c.checkSound(t, k, s)
		}
	}
}

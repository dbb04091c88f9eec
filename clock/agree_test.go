package clock_test

import (
	"math"
	"math/rand/v2"
	"slices"
	"testing"

	"putlog/api"
	"putlog/clock"
)

// count returns the number of spells of l that have the second s.
func count(l []api.Spell, s int) int {
	n := 0
	for _, x := range l {
		if x.From <= s && s < x.To {
			n++
		}
	}
	return n
}

// agreed returns what Agree does, second by second; all spells are from low up to high.
func agreed(l []api.Spell, low, high int) (api.Spell, int) {
	most := 0
	for s := low; s < high; s++ {
		most = max(most, count(l, s))
	}
	if most == 0 {
		return api.Spell{}, 0
	}
	from := low
	for count(l, from) < most {
		from++
	}
	to := from
	for to < high && count(l, to) == most {
		to++
	}
	return api.Spell{From: from, To: to}, most
}

// spells returns those from the first up to the second number.
func spells(l [][2]int) []api.Spell {
	var spells []api.Spell
	for _, x := range l {
		spells = append(spells, api.Spell{From: x[0], To: x[1]})
	}
	return spells
}

func checkAgree(t *testing.T, l []api.Spell, want api.Spell, number int) {
	t.Helper()
	if got, n := clock.Agree(l); got != want || n != number {
		t.Errorf("Agree(%v) = %v, %d; want %v, %d", l, got, n, want, number)
	}
}

// P5.1: Agree

func TestAgreeExamples(t *testing.T) {
	type list = [][2]int
	for _, c := range []struct {
		l        list
		from, to int
		number   int
	}{
		{list{{0, 10}, {5, 15}, {8, 9}, {12, 20}}, 8, 9, 3},
		{list{}, 0, 0, 0}, {list{{0, 0}}, 0, 0, 0}, {list{{7, 7}, {9, 3}, {-1, -5}}, 0, 0, 0}, {list{{math.MaxInt, math.MinInt}}, 0, 0, 0},
		{list{{3, 7}}, 3, 7, 1}, {list{{3, 4}}, 3, 4, 1}, {list{{-7, -3}}, -7, -3, 1}, {list{{-7, 0}}, -7, 0, 1}, {list{{0, 1}}, 0, 1, 1},
		// What one spell ends and the next one begins is in as many spells: it goes on.
		{list{{0, 5}, {5, 10}}, 0, 10, 1}, {list{{5, 10}, {0, 5}}, 0, 10, 1}, {list{{0, 5}, {6, 10}}, 0, 5, 1}, {list{{0, 5}, {3, 8}, {5, 9}}, 3, 8, 2},
		{list{{0, 5}, {5, 6}, {6, 9}, {9, 9}, {9, 8}}, 0, 9, 1}, {list{{0, 5}, {5, 10}, {5, 6}}, 5, 6, 2},
		// The first one counts, unless a later one is in more spells.
		{list{{20, 30}, {0, 5}}, 0, 5, 1}, {list{{0, 9}, {1, 2}, {4, 8}}, 1, 2, 2}, {list{{0, 9}, {1, 2}, {4, 8}, {5, 7}}, 5, 7, 3}, {list{{0, 9}, {1, 2}, {4, 8}, {5, 7}, {1, 2}}, 1, 2, 3},
		{list{{3, 7}, {3, 7}, {3, 7}}, 3, 7, 3}, {list{{3, 7}, {3, 7}, {7, 3}, {5, 5}}, 3, 7, 2},
		{list{{math.MinInt, math.MaxInt}}, math.MinInt, math.MaxInt, 1}, {list{{math.MinInt, math.MaxInt}, {math.MaxInt - 1, math.MaxInt}}, math.MaxInt - 1, math.MaxInt, 2},
		{list{{math.MinInt, math.MaxInt}, {math.MinInt, math.MinInt + 1}}, math.MinInt, math.MinInt + 1, 2}, {list{{math.MinInt, 0}, {0, math.MaxInt}}, math.MinInt, math.MaxInt, 1},
	} {
		checkAgree(t, spells(c.l), api.Spell{From: c.from, To: c.to}, c.number)
	}
	checkAgree(t, nil, api.Spell{}, 0)
}

func TestAgreeOfAllPairsOfSpells(t *testing.T) {
	const low, high = -2, 4
	var all []api.Spell
	for from := low; from <= high; from++ {
		for to := low; to <= high; to++ {
			all = append(all, api.Spell{From: from, To: to})
		}
	}
	for _, a := range all {
		for _, b := range all {
			l := []api.Spell{a, b}
			want, number := agreed(l, low, high)
			checkAgree(t, l, want, number)
		}
	}
}

func TestAgreeSecondBySecond(t *testing.T) {
	r := rand.New(rand.NewPCG(5, 20))
	for i := range 10000 {
		span := []int{4, 12, 40}[i%3]
		var l []api.Spell
		for range r.IntN(14) {
			from := r.IntN(span) - span/2
			l = append(l, api.Spell{From: from, To: min(from-2+r.IntN(span), span)})
		}
		want, number := agreed(l, -span, span)
		checkAgree(t, l, want, number)
	}
}

// P5.6

func TestNoSecondIsInMoreSpells(t *testing.T) {
	r := rand.New(rand.NewPCG(5, 21))
	for i := range 400 {
		span := []int{100, 1000000, math.MaxInt}[i%3]
		var l []api.Spell
		var ends []int
		for range 1 + r.IntN(60) {
			x := api.Spell{From: r.IntN(span) - r.IntN(span), To: r.IntN(span)}
			l = append(l, x)
			ends = append(ends, x.From, x.To)
		}
		got, number := clock.Agree(l)
		if number == 0 {
			got = api.Spell{From: 1, To: 0}
		}
		// The number of spells does not change anywhere but at their ends.
		for _, s := range ends {
			n := count(l, s)
			if n > number || got.From <= s && s < got.To && n != number || s < got.From && n == number {
				t.Fatalf("Agree(%v) = %v, %d; but %d is in %d", l, got, number, s, n)
			}
		}
		if number > 0 && (count(l, got.From) != number || count(l, got.To-1) != number || count(l, got.To) >= number) {
			t.Fatalf("Agree(%v) = %v, %d", l, got, number)
		}
	}
}

func TestAgreeInAnyOrder(t *testing.T) {
	r := rand.New(rand.NewPCG(5, 22))
	for range 500 {
		var l []api.Spell
		for range r.IntN(20) {
			l = append(l, api.Spell{From: r.IntN(30), To: r.IntN(30)})
		}
		want, number := clock.Agree(l)
		r.Shuffle(len(l), func(i, k int) { l[i], l[k] = l[k], l[i] })
		checkAgree(t, l, want, number)
	}
}

func TestAgreeOfManySpells(t *testing.T) {
	const many = 200000
	var l []api.Spell
	for i := range many {
		l = append(l, api.Spell{From: i, To: 2*many - i})
	}
	checkAgree(t, l, api.Spell{From: many - 1, To: many + 1}, many)
}

// R3

func TestSpellsAreNotModified(t *testing.T) {
	l := append(make([]api.Spell, 0, 8), api.Spell{From: 9, To: 12}, api.Spell{From: 3, To: 10}, api.Spell{From: 5, To: 1}, api.Spell{From: 1, To: 2})[:3]
	whole := slices.Clone(l[:cap(l)])
	clock.Agree(l)
	if !slices.Equal(l[:cap(l)], whole) {
		t.Errorf("%v, %v", l[:cap(l)], whole)
	}
}

func FuzzAgree(f *testing.F) {
	f.Add([]byte{128, 138, 133, 143, 136, 137, 140, 148})
	f.Add([]byte{128, 133, 133, 138})
	f.Add([]byte{7, 3, 5, 5})
	f.Fuzz(func(t *testing.T, s []byte) {
		var l []api.Spell
		for ; len(s) >= 2; s = s[2:] {
			l = append(l, api.Spell{From: int(s[0]) - 128, To: int(s[1]) - 128})
		}
		want, number := agreed(l, -128, 128)
		checkAgree(t, l, want, number)
	})
}

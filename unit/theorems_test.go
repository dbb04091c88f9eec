package unit_test

import (
	"math/rand/v2"
	"slices"
	"strings"
	"testing"

	"putlog/api"
	"putlog/plane"
	"putlog/unit"
)

// P8.2

// parts calls check for all cuts of many units along a diagonal from the corner i to the corner k.
func parts(t *testing.T, seed uint64, check func(u, first, second api.Unit, i, k int)) {
	r := rand.New(rand.NewPCG(8, seed))
	cuts := 0
	for range 2000 {
		u := some(r)
		for i := range u.Shape {
			for k := range u.Shape {
				if a, b, err := plane.Cut(u.Shape, i, k); err == api.OK {
					first, second := u, u
					first.Shape, second.Shape = a, b
					check(u, first, second, i, k)
					cuts++
				}
			}
		}
	}
	if cuts < 10000 {
		t.Errorf("there were %d cuts", cuts)
	}
}

func TestPartsAddUp(t *testing.T) {
	parts(t, 6, func(u, first, second api.Unit, i, k int) {
		checkWeights(t, u, unit.Volume2(first)+unit.Volume2(second), unit.Weight6(first)+unit.Weight6(second), unit.Moment6(first)+unit.Moment6(second))
		if min(unit.Volume2(first), unit.Weight6(first), unit.Volume2(second), unit.Weight6(second)) <= 0 {
			t.Fatalf("a part of %v has no weight", u)
		}
	})
}

func TestPartsTouch(t *testing.T) {
	parts(t, 7, func(u, first, second api.Unit, i, k int) {
		checkOverlap(t, first, second, false)
		checkOverlap(t, second, first, false)
		// The first part goes from the corner i on to the corner k, and back along the diagonal.
		checkTouch(t, first, second, api.Contact{A: u.ID, B: u.ID, Seam: api.Seam{P: u.Shape[k], Q: u.Shape[i]}, Back: u.Back, Front: u.Front})
		for _, part := range []api.Unit{first, second} {
			checkOverlap(t, part, u, true)
			checkOverlap(t, u, part, true)
			checkNoTouch(t, part, u)
		}
	})
}

// P8.3

func TestContactsTheOtherWay(t *testing.T) {
	r := rand.New(rand.NewPCG(8, 8))
	contacts, overlaps := 0, 0
	for range 20000 {
		a, b := pair(r)
		c, found := unit.Touch(a, b)
		checkOverlap(t, b, a, unit.Overlap(a, b))
		if unit.Overlap(a, b) {
			overlaps++
			checkNoTouch(t, a, b)
		}
		if !found {
			checkNoTouch(t, b, a)
			continue
		}
		contacts++
		checkOverlap(t, a, b, false)
		checkTouch(t, b, a, api.Contact{A: c.B, B: c.A, Seam: api.Seam{P: c.Seam.Q, Q: c.Seam.P}, Back: c.Back, Front: c.Front})
	}
	if contacts < 3000 || overlaps < 3000 {
		t.Errorf("%d contacts, %d overlaps", contacts, overlaps)
	}
}

func TestPlacesOfContacts(t *testing.T) {
	r := rand.New(rand.NewPCG(8, 9))
	contacts := 0
	for range 20000 {
		a, b := pair(r)
		c, found := unit.Touch(a, b)
		if !found {
			continue
		}
		contacts++
		for _, p := range []api.Place{c.Seam.P, c.Seam.Q} {
			if plane.Inside(a.Shape, p) != 0 || plane.Inside(b.Shape, p) != 0 {
				t.Fatalf("the contact %v of %v and %v has an end elsewhere", c, a, b)
			}
		}
		if c.Seam.P == c.Seam.Q {
			t.Fatalf("the contact %v of %v and %v has no length", c, a, b)
		}
		// The unit A is on the left.
		for _, p := range a.Shape {
			if turn(c.Seam.P, c.Seam.Q, p) < 0 {
				t.Fatalf("the contact %v of %v and %v has A on the right", c, a, b)
			}
		}
		if c.Back >= c.Front || c.Back < max(a.Back, b.Back) || c.Front > min(a.Front, b.Front) {
			t.Fatalf("the contact %v of %v and %v has other depths", c, a, b)
		}
		if c.A != a.ID || c.B != b.ID {
			t.Fatalf("the contact %v of %v and %v has other numbers", c, a, b)
		}
	}
	if contacts < 3000 {
		t.Errorf("%d contacts", contacts)
	}
}

// P8.4

func TestCenterOfGravity(t *testing.T) {
	r := rand.New(rand.NewPCG(8, 10))
	units := []api.Unit{stone(), brick(), greatest(), octagon()}
	for range 20000 {
		units = append(units, some(r))
	}
	for _, u := range units {
		left, right := api.MaxCoord, 0
		for _, c := range u.Shape {
			left, right = min(left, c.X), max(right, c.X)
		}
		if w, m := unit.Weight6(u), unit.Moment6(u); m <= left*w || m >= right*w {
			t.Fatalf("the center of gravity of %v is at %d / %d", u, m, w)
		}
	}
}

// P8.5

func TestMoved(t *testing.T) {
	r := rand.New(rand.NewPCG(8, 11))
	contacts, overlaps, rest := 0, 0, 0
	for range 40000 {
		a, b := pair(r)
		dx, dy := r.IntN(31)-15, r.IntN(31)-15
		movedA, errA := unit.Move(a, dx, dy)
		movedB, errB := unit.Move(b, dx, dy)
		if errA != api.OK || errB != api.OK {
			continue
		}
		checkWeights(t, movedA, unit.Volume2(a), unit.Weight6(a), unit.Moment6(a)+dx*unit.Weight6(a))
		if !slices.Equal(unit.Faces(movedA), unit.Faces(a)) {
			t.Fatalf("%v has other faces than %v", movedA, a)
		}
		checkOverlap(t, movedA, movedB, unit.Overlap(a, b))
		if unit.Overlap(a, b) {
			overlaps++
		}
		c, found := unit.Touch(a, b)
		if !found {
			rest++
			checkNoTouch(t, movedA, movedB)
			continue
		}
		contacts++
		c.Seam = api.Seam{P: at(c.Seam.P.X+dx, c.Seam.P.Y+dy), Q: at(c.Seam.Q.X+dx, c.Seam.Q.Y+dy)}
		checkTouch(t, movedA, movedB, c)
	}
	if contacts < 2000 || overlaps < 2000 || rest-overlaps < 2000 {
		t.Errorf("%d contacts, %d overlaps, %d of %d without either", contacts, overlaps, rest-overlaps, contacts+rest)
	}
}

// P8.6

func TestMovedUp(t *testing.T) {
	r := rand.New(rand.NewPCG(8, 12))
	standing, lifted := 0, 0
	for range 10000 {
		u := some(r)
		c, found := unit.Stands(u)
		if !found {
			continue
		}
		standing++
		if c.A != u.ID || c.B != api.Ground || c.Back != u.Back || c.Front != u.Front {
			t.Fatalf("Stands(%v) = %v", u, c)
		}
		for _, p := range u.Shape {
			if end := p == c.Seam.P || p == c.Seam.Q; end != (p.Y == 0) || p.Y < 0 {
				t.Fatalf("the contact of %v with the ground is %v", u, c)
			}
		}
		for dy := 1; dy <= api.MaxCoord; dy++ {
			if moved, err := unit.Move(u, 0, dy); err == api.OK {
				lifted++
				checkFloats(t, moved)
			}
		}
	}
	if standing < 2000 || lifted < 10000 {
		t.Errorf("%d stand on the ground; they were moved up %d times", standing, lifted)
	}
}

// P8.7

// accepted checks that s is the encoding of what it is decoded to, and returns whether it is decoded to a unit.
func accepted(t *testing.T, s string) bool {
	t.Helper()
	u, err := unit.Decode(s)
	if err != api.OK {
		checkNoUnit(t, s)
		return false
	}
	if !unit.Valid(u) || encoding(u) != s {
		t.Fatalf("Decode(%q) = %v, %d", s, u, err)
	}
	checkCode(t, u, s)
	return true
}

func TestDecodeUndoesEncode(t *testing.T) {
	r := rand.New(rand.NewPCG(8, 13))
	for range 20000 {
		u := some(r)
		checkCode(t, u, encoding(u))
	}
}

// Each byte of some encodings is replaced by each other one, removed or doubled.
func TestEncodeReturnsWhatIsAccepted(t *testing.T) {
	r := rand.New(rand.NewPCG(8, 14))
	units := []api.Unit{stone(), brick(), greatest(), octagon()}
	for range 60 {
		units = append(units, some(r))
	}
	yes, no := 0, 0
	try := func(s string) {
		if accepted(t, s) {
			yes++
		} else {
			no++
		}
	}
	for _, u := range units {
		s := encoding(u)
		for i := range len(s) {
			for b := range 256 {
				try(s[:i] + string([]byte{byte(b)}) + s[i+1:])
				try(s[:i] + string([]byte{byte(b)}) + s[i:])
			}
			try(s[:i] + s[i+1:])
		}
	}
	if yes < 3000 || no < 30000 {
		t.Errorf("%d were accepted, %d not", yes, no)
	}
}

func TestNoEncodingBeginsWithAnother(t *testing.T) {
	r := rand.New(rand.NewPCG(8, 15))
	var l []string
	for range 3000 {
		u := some(r)
		s, err := unit.Encode(u)
		if err != api.OK {
			t.Fatalf("Encode(%v) = %d", u, err)
		}
		for i := range s {
			checkNoUnit(t, s[:i])
		}
		for range 10 {
			checkNoUnit(t, s+code(r.IntN(100)-50))
		}
		// This one differs in its last numbers, and in how many there are.
		if u.Shape = u.Shape[:len(u.Shape)-1]; unit.Valid(u) {
			l = append(l, encoding(u))
		}
		l = append(l, s)
	}
	slices.Sort(l)
	l = slices.Compact(l)
	// Whatever a string is the beginning of comes right after it.
	for i, s := range l[1:] {
		if strings.HasPrefix(s, l[i]) {
			t.Fatalf("%q begins with %q", s, l[i])
		}
	}
}

// FuzzUnit decodes any string, and checks the promises for the unit, if there is one.
func FuzzUnit(f *testing.F) {
	for _, u := range []api.Unit{stone(), brick(), greatest(), octagon()} {
		f.Add(encoding(u), 1, 2)
	}
	f.Add("", 0, 0)
	f.Fuzz(func(t *testing.T, s string, dx, dy int) {
		if !accepted(t, s) {
			return
		}
		u, _ := unit.Decode(s)
		volume, weight, moment := weights(u)
		checkWeights(t, u, volume, weight, moment)
		moved, err := unit.Move(u, dx, dy)
		if err != api.OK {
			checkNoMove(t, u, dx, dy)
			return
		}
		checkMove(t, moved, -dx, -dy, u)
		checkWeights(t, moved, volume, weight, moment+dx*weight)
		checkOverlap(t, u, u, true)
		if c, found := unit.Touch(u, moved); found {
			checkTouch(t, moved, u, api.Contact{A: u.ID, B: u.ID, Seam: api.Seam{P: c.Seam.Q, Q: c.Seam.P}, Back: u.Back, Front: u.Front})
			checkOverlap(t, u, moved, false)
		}
	})
}

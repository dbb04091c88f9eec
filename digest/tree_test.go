package digest_test

import (
	"encoding/hex"
	"fmt"
	"math"
	"math/bits"
	"math/rand/v2"
	"slices"
	"strings"
	"testing"

	"putlog/api"
	"putlog/digest"
)

// The functions in this part say the definitions of the chapter again.

func half(n int) int {
	k := 1
	for k < n-k {
		k *= 2
	}
	return k
}

func leaf(s string) string    { return sum("\x00", s) }
func node(a, b string) string { return sum("\x01", a, b) }

func root(l []string) string {
	switch {
	case len(l) == 0:
		return sum("")
	case len(l) == 1:
		return leaf(l[0])
	}
	k := half(len(l))
	return node(root(l[:k]), root(l[k:]))
}

func proofOf(l []string, i int) []string {
	if len(l) == 1 {
		return nil
	}
	k := half(len(l))
	if i < k {
		return append(proofOf(l[:k], i), root(l[k:]))
	}
	return append(proofOf(l[k:], i-k), root(l[:k]))
}

func extensionOf(l []string, m int, whole bool) []string {
	switch {
	case m == 0 || m == len(l) && whole:
		return nil
	case m == len(l):
		return []string{root(l)}
	}
	k := half(len(l))
	if m <= k {
		return append(extensionOf(l[:k], m, whole), root(l[k:]))
	}
	return append(extensionOf(l[k:], m-k, false), root(l[:k]))
}

// A side says whether the entry with the index i of n, or the last one of the first i + 1, is in the first part. sides returns them from the root down, to the entry itself, or to a list whose last entry it is.
func sides(n, i int, extension bool) []bool {
	var l []bool
	for n > 1 && !(extension && i == n-1) {
		k := half(n)
		first := i < k
		l = append(l, first)
		if first {
			n = k
		} else {
			n, i = n-k, i-k
		}
	}
	return l
}

// valueOf returns the value of n, i and the proof of s; it adds the strings of which Sum is computed to those that are known.
func valueOf(n, i int, s string, proof []string, known map[string]string) (string, bool) {
	l := sides(n, i, false)
	slices.Reverse(l)
	if len(l) != len(proof) {
		return "", false
	}
	value := leaf(s)
	known[value] = "\x00" + s
	for j, x := range proof {
		a, b := x, value
		if l[j] {
			a, b = value, x
		}
		value = node(a, b)
		known[value] = "\x01" + a + b
	}
	return value, true
}

// twoValues returns the two values of m, n and the proof; it adds the strings of which Sum is computed to those that are known.
func twoValues(old string, m, n int, proof []string, known map[string]string) (string, string, bool) {
	l := sides(n, m-1, true)
	slices.Reverse(l)
	first, second := old, old
	if slices.Contains(l, false) {
		if len(proof) == 0 {
			return "", "", false
		}
		first, second, proof = proof[0], proof[0], proof[1:]
	}
	if len(l) != len(proof) {
		return "", "", false
	}
	join := func(a, b string) string {
		known[node(a, b)] = "\x01" + a + b
		return node(a, b)
	}
	for j, x := range proof {
		if l[j] {
			second = join(second, x)
		} else {
			first, second = join(x, first), join(x, second)
		}
	}
	return first, second, true
}

func verify(root string, n, i int, s string, proof []string) bool {
	if i < 0 || i >= n || slices.ContainsFunc(proof, notDigest) {
		return false
	}
	value, ok := valueOf(n, i, s, proof, map[string]string{})
	return ok && value == root
}

func verifyExtension(old string, m int, root string, n int, proof []string) bool {
	if m < 0 || m > n || notDigest(old) || notDigest(root) || slices.ContainsFunc(proof, notDigest) {
		return false
	}
	if m == 0 {
		return len(proof) == 0 && old == sum("")
	}
	first, second, ok := twoValues(old, m, n, proof, map[string]string{})
	return ok && first == old && second == root
}

func notDigest(s string) bool { return len(s) != 32 }

// entries returns n entries, all of them different, of sizes 0 to 70.
func entries(n int) []string {
	r := rand.New(rand.NewPCG(2, uint64(n)))
	l := []string{}
	for i := range n {
		l = append(l, strings.Repeat(string(rune('a'+i%26)), i%67)+fmt.Sprint(i)+randomText(r, 2))
	}
	return l
}

// ways returns other proofs than this one: with elements changed, left out, added, doubled and in other orders.
func ways(proof []string) [][]string {
	l := [][]string{
		append([]string{sum("x")}, proof...),
		append(slices.Clone(proof), sum("x")),
		append(slices.Clone(proof), make([]string, 70)...),
		append(slices.Clone(proof), slices.Repeat([]string{sum("x")}, 70)...),
	}
	for i := range proof {
		l = append(l, slices.Delete(slices.Clone(proof), i, i+1), slices.Insert(slices.Clone(proof), i, proof[i]))
		for at := range proof[i] {
			other := slices.Clone(proof)
			other[i] = proof[i][:at] + string([]byte{proof[i][at] ^ 1<<(at%8)}) + proof[i][at+1:]
			l = append(l, other)
		}
		for _, x := range []string{"", proof[i][:31], proof[i] + "\x00", "\x00" + proof[i], proof[i] + proof[i], sum("x")} {
			other := slices.Clone(proof)
			other[i] = x
			l = append(l, other)
		}
		other := slices.Clone(proof)
		other[0], other[i] = other[i], other[0]
		l = append(l, other)
	}
	return slices.DeleteFunc(l, func(other []string) bool { return slices.Equal(other, proof) })
}

// P2.1

func TestRootOfKnownLists(t *testing.T) {
	l := []string{"", "\x00", "\x10", "\x20\x21", "\x30\x31", "\x40\x41\x42\x43", "\x50\x51\x52\x53\x54\x55\x56\x57", "\x60\x61\x62\x63\x64\x65\x66\x67\x68\x69\x6a\x6b\x6c\x6d\x6e\x6f"}
	for n, want := range []string{
		"e3b0c44298fc1c149afbf4c8996fb92427ae41e4649b934ca495991b7852b855",
		"6e340b9cffb37a989ca544e6bb780a2c78901d3fb33738768511a30617afa01d",
		"fac54203e7cc696cf0dfcb42c92a1d9dbaf70ad9e621f4bd8d98662f00e3c125",
		"aeb6bcfe274b70a14fb067a5e5578264db0fa9b51af5e0ba159158f329e06e77",
		"d37ee418976dd95753c1c73862b9398fa2a2cf9b4ff0fdfe8b30cd95209614b7",
		"4e3bbb1f7b478dcfe71fb631631519a3bca12c9aefca1612bfce4c13a86264d4",
		"76e67dadbcdf1e10e1b74ddc608abd2f98dfb16fbce75277b5232a127f2087ef",
		"ddb89be403809e325750d3d263cd78929c2942b7942a34b77e122c9594a74c8c",
		"5dc9da79a70659a9ad559cb701ded9a2ab9d823aad2f4960cfe370eff4604328",
	} {
		wantHex(t, fmt.Sprintf("Root of %d entries", n), digest.Root(l[:n]), want)
	}
	if digest.Root(nil) != digest.Sum("") || digest.Root([]string{}) != digest.Sum("") || digest.Root([]string{""}) != digest.Leaf("") {
		t.Error("Root of no entries, or of an empty one")
	}
}

func TestRoot(t *testing.T) {
	for _, n := range append(upTo(130), 255, 256, 257, 1000, 1023, 1024, 1025, 5000) {
		if l := entries(n); digest.Root(l) != root(l) {
			t.Errorf("Root of %d entries = %x; want %x", n, digest.Root(l), root(l))
		}
	}
}

func upTo(n int) []int {
	var l []int
	for i := range n + 1 {
		l = append(l, i)
	}
	return l
}

func TestExamplesOfProofs(t *testing.T) {
	l := []string{"x", "y", "z"}
	if p, err := digest.Proof(l, 2); err != api.OK || !slices.Equal(p, []string{digest.Node(digest.Leaf("x"), digest.Leaf("y"))}) {
		t.Errorf("Proof of 2 = %x, %d", p, err)
	}
	if p, err := digest.Extension(l, 1); err != api.OK || !slices.Equal(p, []string{digest.Leaf("y"), digest.Leaf("z")}) {
		t.Errorf("Extension of 1 = %x, %d", p, err)
	}
	if p, err := digest.Proof(l, 0); err != api.OK || !slices.Equal(p, []string{digest.Leaf("y"), digest.Leaf("z")}) {
		t.Errorf("Proof of 0 = %x, %d", p, err)
	}
	if p, err := digest.Proof(l[:1], 0); err != api.OK || len(p) != 0 {
		t.Errorf("Proof in one entry = %x, %d", p, err)
	}
}

func TestProof(t *testing.T) {
	for _, n := range append(upTo(40), 64, 65, 100) {
		l := entries(n)
		for i := range n {
			if p, err := digest.Proof(l, i); err != api.OK || !slices.Equal(p, proofOf(l, i)) {
				t.Errorf("Proof of %d in %d entries = %x, %d; want %x", i, n, p, err, proofOf(l, i))
			}
		}
	}
}

func TestProofOfEntriesThatAreNotThere(t *testing.T) {
	for n := range 10 {
		for _, i := range []int{-1, -2, n, n + 1, math.MinInt, math.MaxInt} {
			if p, err := digest.Proof(entries(n), i); len(p) != 0 || err != api.ErrArg {
				t.Errorf("Proof of %d in %d entries = %x, %d; want ErrArg", i, n, p, err)
			}
		}
	}
	if p, err := digest.Proof(nil, 0); len(p) != 0 || err != api.ErrArg {
		t.Errorf("Proof of 0 in nil = %x, %d; want ErrArg", p, err)
	}
}

func TestExtension(t *testing.T) {
	for _, n := range append(upTo(40), 64, 65, 100) {
		l := entries(n)
		for m := range n + 1 {
			if p, err := digest.Extension(l, m); err != api.OK || !slices.Equal(p, extensionOf(l, m, true)) {
				t.Errorf("Extension of %d to %d entries = %x, %d; want %x", m, n, p, err, extensionOf(l, m, true))
			}
		}
		for _, m := range []int{0, n} {
			if p, err := digest.Extension(l, m); err != api.OK || len(p) != 0 {
				t.Errorf("Extension of %d to %d entries = %x, %d; want none", m, n, p, err)
			}
		}
	}
	if p, err := digest.Extension(nil, 0); err != api.OK || len(p) != 0 {
		t.Errorf("Extension of nil = %x, %d", p, err)
	}
}

func TestExtensionOfMoreThanThereIs(t *testing.T) {
	for n := range 10 {
		for _, m := range []int{-1, -2, n + 1, n + 2, math.MinInt, math.MaxInt} {
			if p, err := digest.Extension(entries(n), m); len(p) != 0 || err != api.ErrArg {
				t.Errorf("Extension of %d to %d entries = %x, %d; want ErrArg", m, n, p, err)
			}
		}
	}
}

func wantVerify(t *testing.T, root string, n, i int, s string, proof []string) {
	t.Helper()
	want := verify(root, n, i, s, proof)
	if got := digest.Verify(root, n, i, s, proof); got != want {
		t.Errorf("Verify(%x, %d, %d, %q, %x) = %t; want %t", root, n, i, s, proof, got, want)
	}
}

// A proof can fit several numbers of entries and indices.
func TestVerifyOfOtherNumbersAndIndices(t *testing.T) {
	for n := range 18 {
		l := entries(n)
		top := root(l)
		for i, s := range l {
			proof := proofOf(l, i)
			for other := -1; other < 36; other++ {
				for index := -1; index <= max(other, 0)+1; index++ {
					wantVerify(t, top, other, index, s, proof)
				}
			}
		}
	}
}

func TestVerifyOfOtherArguments(t *testing.T) {
	for n := range 18 {
		l := entries(n)
		top := root(l)
		for i, s := range l {
			proof := proofOf(l, i)
			for _, other := range []string{"", top[:31], top + "\x00", sum("x"), strings.Repeat("\x00", 32), leaf(s)} {
				wantVerify(t, other, n, i, s, proof)
			}
			for _, other := range []string{"", s + "\x00", "\x00" + s, s[1:], "\x00", leaf(s), strings.Join(proof, "")} {
				wantVerify(t, top, n, i, other, proof)
			}
			for _, other := range ways(proof) {
				wantVerify(t, top, n, i, s, other)
			}
		}
	}
}

func TestVerifyOfInvalidNumbers(t *testing.T) {
	l := entries(1)
	for _, c := range [][2]int{{0, 0}, {1, 1}, {1, -1}, {-1, 0}, {-1, -1}, {0, -1}, {-5, -6}, {math.MinInt, math.MinInt}, {math.MinInt, 0}, {math.MinInt, math.MaxInt}, {1, math.MinInt}, {1, math.MaxInt}, {math.MaxInt, math.MaxInt}, {math.MaxInt, -1}, {math.MaxInt, 0}} {
		if digest.Verify(root(l), c[0], c[1], l[0], nil) {
			t.Errorf("Verify with the number %d and the index %d", c[0], c[1])
		}
	}
}

// The proofs of a root that was made with an element that is no digest are refused, too.
func TestVerifyOfElementsThatAreNoDigests(t *testing.T) {
	for _, x := range []string{"", "a", strings.Repeat("a", 31), strings.Repeat("a", 33), strings.Repeat("a", 64)} {
		if digest.Verify(node(leaf("s"), x), 2, 0, "s", []string{x}) || digest.Verify(node(x, leaf("s")), 2, 1, "s", []string{x}) {
			t.Errorf("Verify with an element of %d bytes", len(x))
		}
	}
	x := strings.Repeat("a", 32)
	if !digest.Verify(node(leaf("s"), x), 2, 0, "s", []string{x}) || !digest.Verify(node(x, leaf("s")), 2, 1, "s", []string{x}) {
		t.Error("Verify with an element of 32 bytes")
	}
}

// large has numbers of entries of which no list can be made.
var large = []int{1 << 40, 1<<40 + 1, 1 << 62, 1<<62 - 1, 1<<62 + 1, math.MaxInt - 1, math.MaxInt}

func TestVerifyOfVeryLongLists(t *testing.T) {
	r := rand.New(rand.NewPCG(2, 3))
	for _, n := range large {
		for _, i := range []int{0, 1, n / 2, n/2 + 1, n - 2, n - 1, r.IntN(n), r.IntN(n)} {
			proof := []string{}
			for range sides(n, i, false) {
				proof = append(proof, randomText(r, 32))
			}
			top, ok := valueOf(n, i, "s", proof, map[string]string{})
			if !ok || !digest.Verify(top, n, i, "s", proof) {
				t.Errorf("Verify of %d in %d entries is false", i, n)
			}
			for _, other := range ways(proof)[:20] {
				wantVerify(t, top, n, i, "s", other)
			}
			wantVerify(t, top, n, i+1, "s", proof)
			wantVerify(t, top, n, i-1, "s", proof)
		}
	}
}

func wantExtends(t *testing.T, old string, m int, root string, n int, proof []string) {
	t.Helper()
	want := verifyExtension(old, m, root, n, proof)
	if got := digest.VerifyExtension(old, m, root, n, proof); got != want {
		t.Errorf("VerifyExtension(%x, %d, %x, %d, %x) = %t; want %t", old, m, root, n, proof, got, want)
	}
}

func TestVerifyExtensionOfOtherNumbers(t *testing.T) {
	for n := range 14 {
		l := entries(n)
		top := root(l)
		for m := range n + 1 {
			proof, old := extensionOf(l, m, true), root(l[:m])
			for other := -1; other < 28; other++ {
				for from := -1; from <= max(other, 0)+1; from++ {
					wantExtends(t, old, from, top, other, proof)
				}
			}
		}
	}
}

func TestVerifyExtensionOfOtherArguments(t *testing.T) {
	for n := range 14 {
		l := entries(n)
		top := root(l)
		for m := range n + 1 {
			proof, old := extensionOf(l, m, true), root(l[:m])
			for _, other := range []string{"", old[:31], old + "\x00", sum("x"), sum(""), top, strings.Repeat("\x00", 32)} {
				wantExtends(t, other, m, top, n, proof)
			}
			for _, other := range []string{"", top[:31], top + "\x00", sum("x"), sum(""), old, strings.Repeat("\x00", 32)} {
				wantExtends(t, old, m, other, n, proof)
			}
			for _, other := range ways(proof) {
				wantExtends(t, old, m, top, n, other)
			}
		}
	}
}

func TestVerifyExtensionOfNoEntries(t *testing.T) {
	none, some, short := sum(""), sum("some"), sum("some")[:31]
	for _, n := range []int{0, 1, 2, 3, 100, 1 << 62, math.MaxInt} {
		for _, c := range []struct {
			old, root string
			proof     []string
			want      bool
		}{
			{none, some, nil, true}, {none, none, []string{}, true}, {none, strings.Repeat("\x00", 32), nil, true},
			{some, some, nil, false}, {none, some, []string{some}, false}, {none, some, []string{""}, false},
			{none, short, nil, false}, {none, "", nil, false}, {none, some + "x", nil, false}, {"", some, nil, false}, {none[:31], some, nil, false},
		} {
			if got := digest.VerifyExtension(c.old, 0, c.root, n, c.proof); got != c.want {
				t.Errorf("VerifyExtension(%x, 0, %x, %d, %x) = %t; want %t", c.old, c.root, n, c.proof, got, c.want)
			}
		}
	}
}

func TestVerifyExtensionByNoEntries(t *testing.T) {
	some, other := sum("some"), sum("other")
	for _, n := range []int{1, 2, 3, 100, 1 << 62, math.MaxInt} {
		for _, c := range []struct {
			old, root string
			proof     []string
			want      bool
		}{
			{some, some, nil, true}, {some, some, []string{}, true}, {some, other, nil, false}, {some, some, []string{some}, false},
			{"", "", nil, false}, {some[:31], some[:31], nil, false}, {some + "x", some + "x", nil, false}, {some, some, []string{""}, false},
		} {
			if got := digest.VerifyExtension(c.old, n, c.root, n, c.proof); got != c.want {
				t.Errorf("VerifyExtension(%x, %d, %x, %d, %x) = %t; want %t", c.old, n, c.root, n, c.proof, got, c.want)
			}
		}
	}
}

func TestVerifyExtensionOfInvalidNumbers(t *testing.T) {
	some := sum("some")
	for _, c := range [][2]int{{-1, 0}, {-1, -1}, {1, 0}, {2, 1}, {0, -1}, {math.MinInt, 0}, {math.MinInt, math.MinInt}, {math.MaxInt, 1}, {0, math.MinInt}, {math.MinInt, math.MaxInt}, {math.MaxInt, math.MinInt}} {
		for _, old := range []string{some, sum("")} {
			if digest.VerifyExtension(old, c[0], old, c[1], nil) {
				t.Errorf("VerifyExtension of %d to %d entries", c[0], c[1])
			}
		}
	}
}

// The proofs of roots that were made with an element that is no digest are refused, too.
func TestVerifyExtensionOfElementsThatAreNoDigests(t *testing.T) {
	for _, size := range []int{0, 1, 31, 32, 33, 64} {
		x, old, want := strings.Repeat("a", size), sum("old"), size == 32
		if digest.VerifyExtension(old, 1, node(old, x), 2, []string{x}) != want {
			t.Errorf("VerifyExtension of 1 to 2 entries with an element of %d bytes", size)
		}
		proof := []string{old, sum("y"), x}
		first, second, _ := twoValues("", 3, 4, proof, map[string]string{})
		if digest.VerifyExtension(first, 3, second, 4, proof) != want {
			t.Errorf("VerifyExtension of 3 to 4 entries with an element of %d bytes", size)
		}
	}
}

// A root of the shorter list that is no digest is refused even if the root of the longer one was made with it.
func TestVerifyExtensionOfRootsThatAreNoDigests(t *testing.T) {
	for _, size := range []int{0, 1, 31, 32, 33, 64} {
		old, proof, want := strings.Repeat("a", size), []string{sum("x"), sum("y")}, size == 32
		for _, m := range []int{1, 2} {
			_, top, _ := twoValues(old, m, 2*m, proof[:1], map[string]string{})
			if digest.VerifyExtension(old, m, top, 2*m, proof[:1]) != want {
				t.Errorf("VerifyExtension of %d to %d entries with an old root of %d bytes", m, 2*m, size)
			}
		}
		if digest.VerifyExtension(old, 2, node(node(old, proof[0]), proof[1]), 5, proof) != want {
			t.Errorf("VerifyExtension of 2 to 5 entries with an old root of %d bytes", size)
		}
	}
}

func TestVerifyExtensionOfVeryLongLists(t *testing.T) {
	r := rand.New(rand.NewPCG(2, 4))
	for _, n := range large {
		for _, m := range []int{1, 2, 3, n / 2, n/2 + 1, n - 2, n - 1, 1 + r.IntN(n-1), 1 + r.IntN(n-1)} {
			l := sides(n, m-1, true)
			proof := []string{}
			for range l {
				proof = append(proof, randomText(r, 32))
			}
			if slices.Contains(l, false) {
				proof = append(proof, randomText(r, 32))
			}
			old, top, ok := twoValues(sum("old"), m, n, proof, map[string]string{})
			if !ok || !digest.VerifyExtension(old, m, top, n, proof) {
				t.Errorf("VerifyExtension of %d to %d entries is false", m, n)
			}
			for _, other := range ways(proof)[:min(20, len(ways(proof)))] {
				wantExtends(t, old, m, top, n, other)
			}
			wantExtends(t, old, m+1, top, n, proof)
			wantExtends(t, old, m-1, top, n, proof)
		}
	}
}

// Neither an argument nor its spare capacity is written to, and what is returned is new.
func TestArgumentsAndResultsShareNoMemory(t *testing.T) {
	for _, n := range []int{1, 2, 3, 7, 8, 13} {
		all := append(entries(n), slices.Repeat([]string{"spare"}, 20)...)
		before := slices.Clone(all)
		l := all[:n]
		for i := range n {
			for _, f := range []func([]string, int) ([]string, api.Errno){digest.Proof, digest.Extension} {
				first, _ := f(l, i)
				want := slices.Clone(first)
				second, _ := f(l, i)
				fill(first)
				third, _ := f(l, i)
				if !slices.Equal(second, want) || !slices.Equal(third, want) || !slices.Equal(all, before) {
					t.Fatalf("a proof of %d in %d entries shares memory", i, n)
				}
			}
		}
		digest.Root(l)
		if !slices.Equal(all, before) {
			t.Fatalf("Root of %d entries changes them", n)
		}
	}
}

// fill overwrites a slice and its spare capacity.
func fill(l []string) {
	l = l[:cap(l)]
	for i := range l {
		l[i] = "overwritten"
	}
}

func TestProofsAreNotWrittenTo(t *testing.T) {
	l := entries(13)
	for i := range l {
		proof, _ := digest.Proof(l, i)
		all := append(slices.Clone(proof), "spare", "spare")
		digest.Verify(digest.Root(l), len(l), i, l[i], all[:len(proof)])
		if !slices.Equal(all[:len(proof)], proof) || all[len(proof)] != "spare" {
			t.Fatalf("Verify of %d changes the proof", i)
		}
		proof, _ = digest.Extension(l, i)
		all = append(slices.Clone(proof), "spare", "spare")
		digest.VerifyExtension(digest.Root(l[:i]), i, digest.Root(l), len(l), all[:len(proof)])
		if !slices.Equal(all[:len(proof)], proof) || all[len(proof)] != "spare" {
			t.Fatalf("VerifyExtension of %d changes the proof", i)
		}
	}
}

// P2.2

func TestProofsAreAcceptedAndShort(t *testing.T) {
	for _, n := range append(upTo(70), 127, 128, 129, 255, 256, 257) {
		l := entries(n)
		top := digest.Root(l)
		for i, s := range l {
			proof, err := digest.Proof(l, i)
			if err != api.OK || !digest.Verify(top, n, i, s, proof) {
				t.Fatalf("the proof of %d in %d entries is not accepted", i, n)
			}
			if len(proof) > bits.Len(uint(n)) {
				t.Fatalf("the proof of %d in %d entries has %d elements", i, n, len(proof))
			}
		}
	}
}

func TestExtensionsAreAcceptedAndShort(t *testing.T) {
	for _, n := range append(upTo(70), 127, 128, 129, 255, 256, 257) {
		l := entries(n)
		top := digest.Root(l)
		for m := range n + 1 {
			proof, err := digest.Extension(l, m)
			if err != api.OK || !digest.VerifyExtension(digest.Root(l[:m]), m, top, n, proof) {
				t.Fatalf("the extension of %d to %d entries is not accepted", m, n)
			}
			if len(proof) > 2*bits.Len(uint(n)) {
				t.Fatalf("the extension of %d to %d entries has %d elements", m, n, len(proof))
			}
		}
	}
}

func TestProofsInLongLists(t *testing.T) {
	for _, n := range []int{1023, 1024, 1025, 3000} {
		l := entries(n)
		top := digest.Root(l)
		for _, i := range []int{0, 1, n / 2, n/2 + 1, n - 2, n - 1} {
			if proof, err := digest.Proof(l, i); err != api.OK || len(proof) > bits.Len(uint(n)) || !digest.Verify(top, n, i, l[i], proof) {
				t.Errorf("the proof of %d in %d entries: %d elements, error %d", i, n, len(proof), err)
			}
			if proof, err := digest.Extension(l, i); err != api.OK || len(proof) > 2*bits.Len(uint(n)) || !digest.VerifyExtension(digest.Root(l[:i]), i, top, n, proof) {
				t.Errorf("the extension of %d to %d entries: %d elements, error %d", i, n, len(proof), err)
			}
		}
	}
}

// Entries may be empty, equal to each other, or digests.
func TestProofsOfOddEntries(t *testing.T) {
	a := leaf("a")
	for _, l := range [][]string{{"", "", ""}, {"a", "a", "a", "a", "a"}, {a, node(a, a), a + a, "\x01" + a + a}, {strings.Repeat("x", 100000), ""}} {
		top := digest.Root(l)
		for i, s := range l {
			if proof, err := digest.Proof(l, i); err != api.OK || !digest.Verify(top, len(l), i, s, proof) {
				t.Errorf("the proof of %d in %.100q is not accepted", i, l)
			}
			if proof, err := digest.Extension(l, i); err != api.OK || !digest.VerifyExtension(digest.Root(l[:i]), i, top, len(l), proof) {
				t.Errorf("the extension of %d to %.100q is not accepted", i, l)
			}
		}
	}
}

// P2.3

// inner returns the two parts of the string of a node with the given digest.
func inner(t *testing.T, d string, known map[string]string) (string, string) {
	t.Helper()
	s := known[d]
	if len(s) != 65 || s[0] != 1 || digest.Sum(s) != d {
		t.Fatalf("%x is not the digest of a node: %q", d, s)
	}
	return s[1:33], s[33:]
}

// entryOf reads the entry with the index i of n from the root, with the strings that have a Sum. As long as no two of them have the same Sum, there is only one entry that a proof can show.
func entryOf(t *testing.T, top string, n, i int, known map[string]string) string {
	t.Helper()
	for _, first := range sides(n, i, false) {
		a, b := inner(t, top, known)
		if top = b; first {
			top = a
		}
	}
	s := known[top]
	if s == "" || s[0] != 0 || digest.Sum(s) != top {
		t.Fatalf("%x is not the digest of a leaf: %q", top, s)
	}
	return s[1:]
}

func TestRootBindsEntries(t *testing.T) {
	for n := 1; n <= 20; n++ {
		l := entries(n)
		top := digest.Root(l)
		for i, s := range l {
			proof, _ := digest.Proof(l, i)
			known := map[string]string{}
			if value, ok := valueOf(n, i, s, proof, known); !ok || value != top {
				t.Fatalf("the value of the proof of %d in %d entries is not the root", i, n)
			}
			if got := entryOf(t, top, n, i, known); got != s {
				t.Fatalf("the strings of the proof of %d in %d entries lead to %q", i, n, got)
			}
		}
	}
}

// Nothing is accepted but the entry and its proof.
func TestOtherEntriesAreRefused(t *testing.T) {
	for n := 1; n <= 20; n++ {
		l := entries(n)
		top := digest.Root(l)
		for i, s := range l {
			proof, _ := digest.Proof(l, i)
			others := append(slices.Clone(l), "", s+"\x00", "\x00"+s, leaf(s), "\x00", top, node(top, top))
			for _, x := range proof {
				others = append(others, x, leaf(s)+x, x+leaf(s), "\x01"+leaf(s)+x)
			}
			for _, other := range others {
				if other != s && digest.Verify(top, n, i, other, proof) {
					t.Fatalf("%q is accepted as the entry %d of %d", other, i, n)
				}
			}
			for _, other := range ways(proof) {
				if digest.Verify(top, n, i, s, other) || digest.Verify(top, n, i, "x", other) {
					t.Fatalf("%x is accepted as the proof of %d of %d", other, i, n)
				}
			}
		}
	}
}

// An inner node is no entry: the string of a node is not the one of a leaf.
func TestNodesAreNoEntries(t *testing.T) {
	l := entries(4)
	top := digest.Root(l)
	a, b := node(leaf(l[0]), leaf(l[1])), node(leaf(l[2]), leaf(l[3]))
	for _, s := range []string{a + b, "\x01" + a + b, leaf(l[0]) + leaf(l[1]), top} {
		if digest.Verify(top, 1, 0, s, nil) || digest.Verify(top, 2, 0, s, []string{b}) || digest.Verify(top, 2, 1, s, []string{a}) {
			t.Errorf("%x is accepted as an entry", s)
		}
	}
}

// P2.4

// oldOf reads the root of the first m of n entries from the root of all, with the strings that have a Sum.
func oldOf(t *testing.T, top string, m, n int, known map[string]string) string {
	t.Helper()
	var before []string
	for _, first := range sides(n, m-1, true) {
		a, b := inner(t, top, known)
		if first {
			top = a
		} else {
			before, top = append(before, a), b
		}
	}
	for _, x := range slices.Backward(before) {
		top = node(x, top)
	}
	return top
}

func TestRootBindsExtensions(t *testing.T) {
	for n := 1; n <= 20; n++ {
		l := entries(n)
		top := digest.Root(l)
		for m := 1; m <= n; m++ {
			proof, _ := digest.Extension(l, m)
			old, known := digest.Root(l[:m]), map[string]string{}
			if first, second, ok := twoValues(old, m, n, proof, known); !ok || first != old || second != top {
				t.Fatalf("the values of the extension of %d to %d entries are not the roots", m, n)
			}
			if got := oldOf(t, top, m, n, known); got != old {
				t.Fatalf("the strings of the extension of %d to %d entries lead to %s", m, n, hex.EncodeToString([]byte(got)))
			}
		}
	}
}

// Another proof is refused even if the root of the shorter list, or of the longer one, is what it gives.
func TestOtherExtensionsAreRefused(t *testing.T) {
	for n := 1; n <= 20; n++ {
		l := entries(n)
		top := digest.Root(l)
		for m := 1; m <= n; m++ {
			proof, _ := digest.Extension(l, m)
			old := digest.Root(l[:m])
			for _, other := range ways(proof) {
				first, second, _ := twoValues(old, m, n, other, map[string]string{})
				if digest.VerifyExtension(old, m, top, n, other) || digest.VerifyExtension(first, m, top, n, other) {
					t.Fatalf("%x is accepted as the extension of %d to %d entries", other, m, n)
				}
				if first != old && digest.VerifyExtension(old, m, second, n, other) {
					t.Fatalf("%x is accepted as the extension of %d to %d entries, for another root", other, m, n)
				}
			}
			for from := range n + 1 {
				if from != m && digest.VerifyExtension(digest.Root(l[:from]), m, top, n, proof) {
					t.Fatalf("the root of %d entries is accepted as that of %d of %d", from, m, n)
				}
			}
		}
	}
}

func FuzzVerify(f *testing.F) {
	l := entries(5)
	for i, s := range l {
		f.Add(root(l), 5, i, s, strings.Join(proofOf(l, i), ""))
		f.Add(root(l[:i]), i, 5, root(l), strings.Join(extensionOf(l, i, true), ""))
	}
	f.Fuzz(func(t *testing.T, a string, n, i int, b string, joined string) {
		var proof []string
		for part := range slices.Chunk([]byte(joined), 32) {
			proof = append(proof, string(part))
		}
		wantVerify(t, a, n, i, b, proof)
		wantExtends(t, a, n, b, i, proof)
		if n > 0 && i >= 0 && i < n {
			top, _ := valueOf(n, i, b, proof, map[string]string{})
			wantVerify(t, top, n, i, b, proof)
		}
		if n > 0 && n <= i {
			first, second, _ := twoValues(a, n, i, proof, map[string]string{})
			wantExtends(t, first, n, second, i, proof)
		}
	})
}

package digest

import (
	"math/bits"

	"putlog/api"
)

// Root returns the root of l.
func Root(l []string) string {
	switch len(l) {
	case 0:
		return Sum("")
	case 1:
		return Leaf(l[0])
	}
	k := split(len(l))
	return Node(Root(l[:k]), Root(l[k:]))
}

// Proof returns the proof of the entry with the index i in l, or ErrArg if there is no such entry.
func Proof(l []string, i int) ([]string, api.Errno) {
	if i < 0 || i >= len(l) {
		return nil, api.ErrArg
	}
	return beside(l, i), api.OK
}

// Verify reports whether the proof shows that s is the entry with the index i of a list with n entries and the given root.
func Verify(root string, n int, i int, s string, proof []string) bool {
	if i < 0 || i >= n || !digests(proof...) {
		return false
	}
	value, ok := valueOf(n, i, s, proof)
	return ok && value == root
}

// Extension returns a proof that l begins with its first m entries, or ErrArg if l has fewer.
func Extension(l []string, m int) ([]string, api.Errno) {
	if m < 0 || m > len(l) {
		return nil, api.ErrArg
	}
	if m == 0 {
		return nil, api.OK
	}
	return part(l, m, true), api.OK
}

// VerifyExtension reports whether the proof shows that a list with n entries and the given root begins with m entries whose root is old.
func VerifyExtension(old string, m int, root string, n int, proof []string) bool {
	if m < 0 || m > n || !digests(old, root) || !digests(proof...) {
		return false
	}
	if m == 0 {
		return len(proof) == 0 && old == Root(nil)
	}
	before, after, ok := twoValues(old, m, n, proof, true)
	return ok && before == old && after == root
}

// split returns the greatest power of two that is less than n, where n is at least 2.
func split(n int) int { return 1 << (bits.Len(uint(n-1)) - 1) }

// digests reports whether all strings of l are digests.
func digests(l ...string) bool {
	for _, s := range l {
		if len(s) != api.DigestSize {
			return false
		}
	}
	return true
}

// beside returns the proof of the entry with the index i in l, which has this entry: the roots of what lies beside it, the nearest one first.
func beside(l []string, i int) []string {
	if len(l) == 1 {
		return nil
	}
	k := split(len(l))
	if i < k {
		return append(beside(l[:k], i), Root(l[k:]))
	}
	return append(beside(l[k:], i-k), Root(l[:k]))
}

// valueOf returns the value of n, i and the proof of s, where i is from 0 to n - 1; false if the proof has not the length that it must have.
func valueOf(n, i int, s string, proof []string) (string, bool) {
	if n == 1 {
		return Leaf(s), len(proof) == 0
	}
	if len(proof) == 0 {
		return "", false
	}
	rest, x := cut(proof)
	k := split(n)
	if i < k {
		value, ok := valueOf(k, i, s, rest)
		return Node(value, x), ok
	}
	value, ok := valueOf(n-k, i-k, s, rest)
	return Node(x, value), ok
}

// part returns part(l, m, whole) of the chapter, where m is from 1 to the number of entries. Whole says that l and the list whose extension is proved have the same first m entries, whose root is known then.
func part(l []string, m int, whole bool) []string {
	if m == len(l) && whole {
		return nil
	}
	if m == len(l) {
		return []string{Root(l)}
	}
	k := split(len(l))
	if m <= k {
		return append(part(l[:k], m, whole), Root(l[k:]))
	}
	return append(part(l[k:], m-k, false), Root(l[:k]))
}

// twoValues returns the two values of m, n, the proof and whole, where m is from 1 to n: the roots that the proof gives to the shorter list and to the longer one; false if the proof has not the length that it must have.
func twoValues(old string, m, n int, proof []string, whole bool) (string, string, bool) {
	if m == n && whole {
		return old, old, len(proof) == 0
	}
	if len(proof) == 0 {
		return "", "", false
	}
	rest, x := cut(proof)
	if m == n {
		return x, x, len(rest) == 0
	}
	k := split(n)
	if m <= k {
		before, after, ok := twoValues(old, m, k, rest, whole)
		return before, Node(after, x), ok
	}
	before, after, ok := twoValues(old, m-k, n-k, rest, false)
	return Node(x, before), Node(x, after), ok
}

// cut returns a proof without its last element, and that element.
func cut(proof []string) ([]string, string) {
	last := len(proof) - 1
	return proof[:last], proof[last]
}

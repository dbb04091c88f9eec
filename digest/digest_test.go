package digest_test

import (
	"crypto/sha256"
	"encoding/hex"
	"math/rand/v2"
	"strings"
	"testing"

	"putlog/api"
	"putlog/digest"
)

// sum says SHA-256 again, of the parts one after the other.
func sum(parts ...string) string {
	d := sha256.Sum256([]byte(strings.Join(parts, "")))
	return string(d[:])
}

func randomText(r *rand.Rand, size int) string {
	s := make([]byte, size)
	for i := range s {
		s[i] = byte(r.UintN(256))
	}
	return string(s)
}

// texts returns strings of every size around the ends of blocks, and some large ones.
func texts() []string {
	r := rand.New(rand.NewPCG(2, 1))
	var l []string
	for size := range 330 {
		l = append(l, randomText(r, size), strings.Repeat("\x00", size), strings.Repeat("\xff", size))
	}
	for _, size := range []int{1023, 1024, 4095, 8191, 8192, 65535, 65536, 65591, 65592, 1 << 20} {
		l = append(l, randomText(r, size))
	}
	return l
}

func wantHex(t *testing.T, name, got, want string) {
	t.Helper()
	if hex.EncodeToString([]byte(got)) != want {
		t.Errorf("%s = %x; want %s", name, got, want)
	}
}

// P2.1

func TestSumOfKnownStrings(t *testing.T) {
	for _, c := range []struct{ s, want string }{
		{"", "e3b0c44298fc1c149afbf4c8996fb92427ae41e4649b934ca495991b7852b855"},
		{"abc", "ba7816bf8f01cfea414140de5dae2223b00361a396177a9cb410ff61f20015ad"},
		{"abcdbcdecdefdefgefghfghighijhijkijkljklmklmnlmnomnopnopq", "248d6a61d20638b8e5c026930c3e6039a33ce45964ff2167f6ecedd419db06c1"},
		{"abcdefghbcdefghicdefghijdefghijkefghijklfghijklmghijklmnhijklmnoijklmnopjklmnopqklmnopqrlmnopqrsmnopqrstnopqrstu", "cf5b16a778af8380036ce59e7b0492370b249b11e8f07a51afac45037afee9d1"},
		{strings.Repeat("a", 1000000), "cdc76e5c9914fb9281a1c7e284d73e67f1809a48a497200e046d39ccc7112cd0"},
	} {
		wantHex(t, "Sum", digest.Sum(c.s), c.want)
	}
	wantHex(t, "Leaf(abc)", digest.Leaf("abc"), "609f6e36d2405585188d5cfd761f407c7cc46a7d3f314c88270469dde315fcd1")
}

func TestSumOfEverySize(t *testing.T) {
	for _, s := range texts() {
		if d := digest.Sum(s); d != sum(s) {
			t.Errorf("Sum of %d bytes = %x; want %x", len(s), d, sum(s))
		}
	}
}

func TestLeafNodeAndChainOfEverySize(t *testing.T) {
	l := texts()
	for i, a := range l {
		b := l[(7*i+3)%len(l)]
		if d := digest.Leaf(a); d != sum("\x00", a) {
			t.Errorf("Leaf of %d bytes = %x; want %x", len(a), d, sum("\x00", a))
		}
		if d := digest.Node(a, b); d != sum("\x01", a, b) {
			t.Errorf("Node of %d and %d bytes = %x; want %x", len(a), len(b), d, sum("\x01", a, b))
		}
		if d := digest.Chain(a, b); d != sum("\x02", a, b) {
			t.Errorf("Chain of %d and %d bytes = %x; want %x", len(a), len(b), d, sum("\x02", a, b))
		}
	}
}

// The parts of what is digested end anywhere in a block.
func TestPartsThatEndAnywhere(t *testing.T) {
	s := randomText(rand.New(rand.NewPCG(2, 2)), 200)
	for end := range len(s) + 1 {
		if d := digest.Node(s[:end], s[end:]); d != sum("\x01", s) {
			t.Errorf("Node of %d and %d bytes = %x; want %x", end, len(s)-end, d, sum("\x01", s))
		}
		if d := digest.Chain(s[:end], s[end:]); d != sum("\x02", s) {
			t.Errorf("Chain of %d and %d bytes = %x; want %x", end, len(s)-end, d, sum("\x02", s))
		}
	}
}

func TestSumHas32Bytes(t *testing.T) {
	for _, s := range texts() {
		for _, d := range []string{digest.Sum(s), digest.Leaf(s), digest.Node(s, ""), digest.Chain("", s)} {
			if len(d) != api.DigestSize {
				t.Fatalf("a digest of %d bytes", len(d))
			}
		}
	}
}

// P2.3: heads

// headOf says the definition of the head of a list of records again; it adds the strings of which Sum is computed to those that are known by their Sum.
func headOf(records []string, known map[string]string) string {
	head := strings.Repeat("\x00", 32)
	for _, r := range records {
		s := "\x02" + head + r
		head = digest.Chain(head, r)
		known[head] = s
	}
	return head
}

// recordsOf reads the list of records from its head, with the strings that have a Sum.
func recordsOf(t *testing.T, head string, known map[string]string) []string {
	t.Helper()
	if head == strings.Repeat("\x00", 32) {
		return nil
	}
	s, ok := known[head]
	if !ok || digest.Sum(s) != head || len(s) < 33 || s[0] != 2 {
		t.Fatalf("the head %x is not that of a list: %q", head, s)
	}
	return append(recordsOf(t, s[1:33], known), s[33:])
}

// allLists returns all lists of up to so many records from some.
func allLists(some []string, most int) [][]string {
	l := [][]string{nil}
	for at := 0; at < len(l); at++ {
		if len(l[at]) == most {
			break
		}
		for _, r := range some {
			l = append(l, append(append([]string{}, l[at]...), r))
		}
	}
	return l
}

func TestHeadsBindLists(t *testing.T) {
	zero := strings.Repeat("\x00", 32)
	lists := allLists([]string{"", "a", "aa", "\x02", "\x00", zero, "\x02" + zero, digest.Chain(zero, "a")}, 4)
	known := map[string]string{}
	seen := map[string]bool{}
	for _, l := range lists {
		head := headOf(l, known)
		if seen[head] {
			t.Fatalf("%q has the head of another list", l)
		}
		seen[head] = true
		got := recordsOf(t, head, known)
		if strings.Join(got, "|") != strings.Join(l, "|") || len(got) != len(l) {
			t.Fatalf("from the head of %q %q is read", l, got)
		}
	}
}

// No leaf, node or link of a chain has the digest of another one of them.
func TestMarksKeepDigestsApart(t *testing.T) {
	a, b := digest.Sum("a"), digest.Sum("b")
	seen := map[string]string{}
	for name, d := range map[string]string{
		"Sum": digest.Sum(a + b), "Leaf": digest.Leaf(a + b), "Node": digest.Node(a, b), "Chain": digest.Chain(a, b),
		"Node, swapped": digest.Node(b, a), "Chain, swapped": digest.Chain(b, a),
	} {
		if other := seen[d]; other != "" {
			t.Errorf("%s and %s are the same", name, other)
		}
		seen[d] = name
	}
}

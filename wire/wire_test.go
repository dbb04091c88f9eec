package wire_test

import (
	"hash/crc32"
	"math"
	"math/big"
	"math/rand/v2"
	"strings"
	"testing"

	"putlog/api"
	"putlog/wire"
)

// The encodings of integers that the chapter and its edge cases name.
var ints = []struct {
	n int
	s string
}{
	{0, "\x00"}, {-1, "\x01"}, {1, "\x02"}, {-2, "\x03"}, {63, "\x7e"}, {-64, "\x7f"}, {64, "\x80\x01"}, {-65, "\x81\x01"}, {150, "\xac\x02"},
	{8191, "\xfe\x7f"}, {-8192, "\xff\x7f"}, {8192, "\x80\x80\x01"},
	{1 << 61, "\x80\x80\x80\x80\x80\x80\x80\x80\x40"}, {-(1 << 61), "\xff\xff\xff\xff\xff\xff\xff\xff\x3f"},
	{api.MaxInt - 1, "\xfc\xff\xff\xff\xff\xff\xff\xff\x7f"}, {api.MaxInt, "\xfe\xff\xff\xff\xff\xff\xff\xff\x7f"},
	{-api.MaxInt + 1, "\xfb\xff\xff\xff\xff\xff\xff\xff\x7f"}, {-api.MaxInt, "\xfd\xff\xff\xff\xff\xff\xff\xff\x7f"},
}

// encoding says the definition of the encoding of an integer again, with numbers of any size.
func encoding(n int) string {
	z := big.NewInt(int64(n))
	z.Lsh(z, 1)
	if n < 0 {
		z.Neg(z).Sub(z, big.NewInt(1))
	}
	var s []byte
	for {
		group := new(big.Int)
		z.DivMod(z, big.NewInt(128), group)
		if z.Sign() == 0 {
			return string(append(s, byte(group.Int64())))
		}
		s = append(s, byte(group.Int64()+128))
	}
}

// sampleInts returns integers of every length of encoding, both signs, and the neighbours of each power of two.
func sampleInts() []int {
	r := rand.New(rand.NewPCG(1, 1))
	l := []int{0}
	for bits := range 62 {
		for _, n := range []int{1<<bits - 1, 1 << bits, 1<<bits + 1, 1<<bits | r.IntN(1<<bits)} {
			l = append(l, n, -n)
		}
	}
	return append(l, api.MaxInt, -api.MaxInt)
}

func wantInt(t *testing.T, s string, at, n, next int, err api.Errno) {
	t.Helper()
	if m, to, e := wire.Int(s, at); m != n || to != next || e != err {
		t.Errorf("Int(%.20q, %d) = %d, %d, %d; want %d, %d, %d", s, at, m, to, e, n, next, err)
	}
}

func wantString(t *testing.T, s string, at int, text string, next int, err api.Errno) {
	t.Helper()
	if u, to, e := wire.String(s, at); u != text || to != next || e != err {
		t.Errorf("String(%.20q, %d) = %.20q, %d, %d; want %.20q, %d, %d", s, at, u, to, e, text, next, err)
	}
}

// P1.1

func TestPutInt(t *testing.T) {
	for _, c := range ints {
		if s, err := wire.PutInt(c.n); s != c.s || err != api.OK {
			t.Errorf("PutInt(%d) = %q, %d; want %q", c.n, s, err, c.s)
		}
	}
	for _, n := range sampleInts() {
		if s, err := wire.PutInt(n); s != encoding(n) || err != api.OK {
			t.Errorf("PutInt(%d) = %q, %d; want %q", n, s, err, encoding(n))
		}
	}
}

func TestPutIntOfNumbersOutOfRange(t *testing.T) {
	for _, n := range []int{api.MaxInt + 1, -api.MaxInt - 1, api.MaxInt + 2, -api.MaxInt - 2, math.MaxInt, math.MinInt, math.MinInt + 1} {
		if s, err := wire.PutInt(n); s != "" || err != api.ErrWire {
			t.Errorf("PutInt(%d) = %q, %d; want ErrWire", n, s, err)
		}
	}
}

func TestInt(t *testing.T) {
	for _, c := range ints {
		wantInt(t, c.s, 0, c.n, len(c.s), api.OK)
	}
	for _, n := range sampleInts() {
		s := encoding(n)
		wantInt(t, s, 0, n, len(s), api.OK)
	}
}

func TestIntOutOfOffset(t *testing.T) {
	for _, s := range []string{"", "\x00", "\x80\x01", "\x80\x00"} {
		for _, at := range []int{-1, -2, math.MinInt, len(s) + 1, len(s) + 2, math.MaxInt} {
			wantInt(t, s, at, 0, 0, api.ErrArg)
		}
		wantInt(t, s, len(s), 0, 0, api.ErrWire)
	}
}

func TestIntOfStringsThatEndEarly(t *testing.T) {
	for _, c := range ints {
		for end := range len(c.s) {
			wantInt(t, c.s[:end], 0, 0, 0, api.ErrWire)
			wantInt(t, "\x00"+c.s[:end], 1, 0, 0, api.ErrWire)
		}
	}
}

func TestIntOfSuperfluousGroups(t *testing.T) {
	for _, c := range ints {
		last := len(c.s) - 1
		long := c.s[:last] + string([]byte{c.s[last] | 128})
		for range 12 {
			wantInt(t, long+"\x00", 0, 0, 0, api.ErrWire)
			wantInt(t, "\x02"+long+"\x00\x02", 1, 0, 0, api.ErrWire)
			long += "\x80"
		}
	}
}

func TestIntOutOfRange(t *testing.T) {
	full := strings.Repeat("\xff", 8)
	for _, s := range []string{
		full + "\x7f",                           // -MaxInt - 1
		strings.Repeat("\x80", 9) + "\x01",      // MaxInt + 1
		strings.Repeat("\x80", 9) + "\x02",      // the group has no room in 64 bits
		strings.Repeat("\x80", 10) + "\x01",     // nor has this one
		full + "\xff\x7f",                       // ten groups
		strings.Repeat("\xff", 100) + "\x01",    // very many groups
		strings.Repeat("\x80", 100000) + "\x01", // more than any shift
		strings.Repeat("\x80", 100),             // without an end
	} {
		wantInt(t, s, 0, 0, 0, api.ErrWire)
		wantInt(t, "\x01"+s+"\x01", 1, 0, 0, api.ErrWire)
	}
}

// P1.2

func TestPutString(t *testing.T) {
	for _, c := range []struct{ text, s string }{
		{"", "\x00"}, {"ab", "\x04ab"}, {"\x00", "\x02\x00"}, {"\xff\xfe", "\x04\xff\xfe"}, {"é", "\x04\xc3\xa9"},
		{strings.Repeat("y", 63), "\x7e" + strings.Repeat("y", 63)},
		{strings.Repeat("y", 64), "\x80\x01" + strings.Repeat("y", 64)},
		{strings.Repeat("x", api.MaxString), "\x80\x80\x08" + strings.Repeat("x", api.MaxString)},
	} {
		if s, err := wire.PutString(c.text); s != c.s || err != api.OK {
			t.Errorf("PutString(%.20q) = %.20q, %d; want %.20q", c.text, s, err, c.s)
		}
		wantString(t, c.s, 0, c.text, len(c.s), api.OK)
		wantString(t, "\x04"+c.s+"\x04", 1, c.text, 1+len(c.s), api.OK)
	}
}

func TestPutStringOfTooManyBytes(t *testing.T) {
	for _, size := range []int{api.MaxString + 1, api.MaxString + 2, 2*api.MaxString + 1} {
		if s, err := wire.PutString(strings.Repeat("x", size)); s != "" || err != api.ErrWire {
			t.Errorf("PutString of %d bytes = %.20q, %d; want ErrWire", size, s, err)
		}
	}
}

func TestStringOutOfOffset(t *testing.T) {
	for _, s := range []string{"", "\x04ab", "\x80\x00", "\x01a"} {
		for _, at := range []int{-1, math.MinInt, len(s) + 1, math.MaxInt} {
			wantString(t, s, at, "", 0, api.ErrArg)
		}
		wantString(t, s, len(s), "", 0, api.ErrWire)
	}
}

func TestStringOfInvalidEncodings(t *testing.T) {
	long := strings.Repeat("x", 2*api.MaxString)
	for _, s := range []string{
		"\x04", "\x04a", "\x02", "\x80\x01" + long[:63], // fewer bytes than it says
		"\x80\x80\x08" + long[:api.MaxString-1],
		"\x01", "\x01a", "\x03ab", "\x7f" + long, // less than 0 bytes
		"\xfd\xff\xff\xff\xff\xff\xff\xff\x7f" + long, // -MaxInt bytes
		"\x82\x80\x08" + long,                         // MaxString + 1 bytes
		"\x80\x80\x10" + long,                         // 2 MaxString bytes
		"\xfe\xff\xff\xff\xff\xff\xff\xff\x7f" + long, // MaxInt bytes
		"\xff\xff\xff\xff\xff\xff\xff\xff\x7f" + long, // no encoding of an integer
		"\x80\x00", "\x84\x00ab", "\x84\x80\x00ab", // superfluous groups
		"\x80", "\x84", "\x80\x80", // the length itself ends early
	} {
		wantString(t, s, 0, "", 0, api.ErrWire)
		wantString(t, "\x00"+s, 1, "", 0, api.ErrWire)
	}
}

// P1.3

// bitwise says the definition of the checksum again.
func bitwise(s string) int {
	register := uint32(0xffffffff)
	for _, b := range []byte(s) {
		register ^= uint32(b)
		for range 8 {
			out := register & 1
			register >>= 1
			if out == 1 {
				register ^= 0x82f63b78
			}
		}
	}
	return int(^register)
}

func TestSum(t *testing.T) {
	for s, n := range map[string]int{"": 0, "123456789": 3808858755, "a": 3251651376, strings.Repeat("\x00", 32): 0x8a9136aa, strings.Repeat("\xff", 32): 0x62a8ab43} {
		if m := wire.Sum(s); m != n {
			t.Errorf("Sum(%q) = %d; want %d", s, m, n)
		}
	}
}

func TestSumOfEveryByte(t *testing.T) {
	for b := range 256 {
		for _, s := range []string{string([]byte{byte(b)}), string([]byte{byte(b), 'x'}), string([]byte{'x', byte(b)})} {
			if m := wire.Sum(s); m != bitwise(s) {
				t.Errorf("Sum(%q) = %d; want %d", s, m, bitwise(s))
			}
		}
	}
}

func TestSumOfLongStrings(t *testing.T) {
	r := rand.New(rand.NewPCG(3, 1))
	table := crc32.MakeTable(crc32.Castagnoli)
	for _, size := range []int{3, 15, 16, 17, 255, 1000, api.MaxString, api.MaxString + 1} {
		s := randomBytes(r, size)
		m := wire.Sum(string(s))
		if m != bitwise(string(s)) || m != int(crc32.Checksum(s, table)) {
			t.Errorf("Sum of %d bytes = %d; want %d", size, m, bitwise(string(s)))
		}
		if m < 0 || m > 4294967295 {
			t.Errorf("Sum of %d bytes = %d; it has 32 bits", size, m)
		}
	}
}

func randomBytes(r *rand.Rand, size int) []byte {
	s := make([]byte, size)
	for i := range s {
		s[i] = byte(r.UintN(256))
	}
	return s
}

// P1.4

func TestWhateverSurroundsAnInt(t *testing.T) {
	for _, n := range sampleInts() {
		s := encoding(n)
		for _, before := range []string{"", "\x80", "\x00", "\xff\xff", "abc"} {
			for _, after := range []string{"", "\x00", "\x80", "\xff", "\x01z"} {
				wantInt(t, before+s+after, len(before), n, len(before)+len(s), api.OK)
			}
		}
	}
}

func TestWhateverSurroundsAString(t *testing.T) {
	r := rand.New(rand.NewPCG(4, 1))
	for _, size := range []int{0, 1, 2, 63, 64, 65, 127, 128, 8191, 8192, api.MaxString - 1, api.MaxString} {
		text := string(randomBytes(r, size))
		s, err := wire.PutString(text)
		if err != api.OK {
			t.Fatalf("PutString of %d bytes: error %d", size, err)
		}
		for _, before := range []string{"", "\x80", "\x02"} {
			for _, after := range []string{"", "\x00", "\x80", text} {
				wantString(t, before+s+after, len(before), text, len(before)+len(s), api.OK)
			}
		}
	}
}

// checkAccepted checks that what Int and String accept at an offset of s is what PutInt and PutString return.
func checkAccepted(t *testing.T, s string, at int) {
	t.Helper()
	if n, next, err := wire.Int(s, at); err == api.OK {
		if u, e := wire.PutInt(n); e != api.OK || u != s[at:next] {
			t.Errorf("Int(%q, %d) = %d, %d, but PutInt returns %q, %d", s, at, n, next, u, e)
		}
	} else if n != 0 || next != 0 {
		t.Errorf("Int(%q, %d) = %d, %d with error %d", s, at, n, next, err)
	}
	if text, next, err := wire.String(s, at); err == api.OK {
		if u, e := wire.PutString(text); e != api.OK || u != s[at:next] {
			t.Errorf("String(%q, %d) = %q, %d, but PutString returns %q, %d", s, at, text, next, u, e)
		}
	} else if text != "" || next != 0 {
		t.Errorf("String(%q, %d) = %q, %d with error %d", s, at, text, next, err)
	}
}

func TestAcceptedOfAllShortStrings(t *testing.T) {
	for z := range 1 << 16 {
		s := string([]byte{byte(z), byte(z >> 8)})
		for at := range 3 {
			checkAccepted(t, s, at)
		}
	}
}

func TestAcceptedOfLongEncodings(t *testing.T) {
	r := rand.New(rand.NewPCG(4, 2))
	for range 200000 {
		s := randomBytes(r, 12)
		for i := range r.IntN(11) {
			s[i] |= 128
		}
		checkAccepted(t, string(s), 0)
	}
}

func TestInjectiveAndPrefixFree(t *testing.T) {
	l := map[string]bool{}
	for n := -20000; n <= 20000; n++ {
		s, err := wire.PutInt(n)
		if err != api.OK || l[s] {
			t.Fatalf("PutInt(%d) = %q, %d: not the first one with this encoding", n, s, err)
		}
		l[s] = true
	}
	for s := range l {
		for end := range len(s) {
			if l[s[:end]] {
				t.Fatalf("%q begins with %q", s, s[:end])
			}
		}
	}
}

func TestConcatenations(t *testing.T) {
	r := rand.New(rand.NewPCG(4, 3))
	some := sampleInts()
	for range 300 {
		var s strings.Builder
		var ns []int
		var texts []string
		for range r.IntN(20) {
			n, text := some[r.IntN(len(some))], string(randomBytes(r, r.IntN(200)))
			a, _ := wire.PutInt(n)
			b, _ := wire.PutString(text)
			s.WriteString(a + b)
			ns, texts = append(ns, n), append(texts, text)
		}
		decodeAll(t, s.String(), ns, texts)
	}
}

// decodeAll checks that s is the encodings of the numbers and of the texts by turns, and nothing after them.
func decodeAll(t *testing.T, s string, ns []int, texts []string) {
	t.Helper()
	at := 0
	for i := range ns {
		n, next, err := wire.Int(s, at)
		if err != api.OK || n != ns[i] {
			t.Fatalf("the number %d of %q is %d, with error %d; want %d", i, s, n, err, ns[i])
		}
		text, after, err := wire.String(s, next)
		if err != api.OK || text != texts[i] {
			t.Fatalf("the text %d of %q is %q, with error %d; want %q", i, s, text, err, texts[i])
		}
		at = after
	}
	if at != len(s) {
		t.Fatalf("%q is decoded up to %d", s, at)
	}
}

// flip returns s with the bits of a burst changed, from the given bit of s on; the bits of each byte are counted from the lowest one.
func flip(s string, from int, burst uint32) string {
	b := []byte(s)
	for i := range 32 {
		if burst>>i&1 == 1 {
			b[(from+i)/8] ^= 1 << ((from + i) % 8)
		}
	}
	return string(b)
}

func TestBursts(t *testing.T) {
	r := rand.New(rand.NewPCG(4, 4))
	for _, size := range []int{4, 5, 9, 40, 1000} {
		s := string(randomBytes(r, size))
		sum := wire.Sum(s)
		for from := range 8*size - 31 {
			for _, burst := range []uint32{1, 1 << 31, 1<<31 | 1, math.MaxUint32, 0x82f63b78, r.Uint32() | 1, r.Uint32() | 1} {
				if u := flip(s, from, burst); wire.Sum(u) == sum {
					t.Fatalf("the burst %08x at the bit %d of %q does not change the sum", burst, from, s)
				}
			}
		}
	}
}

// The sum of a changed string is its sum, with a change that is linear in the changed bits. So all 2^32 - 1 bursts from a bit on change the sum if the 32 changes of single bits are independent of each other.
func TestAllBursts(t *testing.T) {
	s := string(randomBytes(rand.New(rand.NewPCG(4, 5)), 40))
	change := func(from int, burst uint32) uint32 {
		return uint32(wire.Sum(s) ^ wire.Sum(flip(s, from, burst)))
	}
	for from := range 8*len(s) - 31 {
		var changes []uint32
		linear := uint32(0)
		for i := range 32 {
			changes = append(changes, change(from, 1<<i))
			if 0xdeadbeef>>i&1 == 1 {
				linear ^= changes[i]
			}
		}
		if change(from, 0xdeadbeef) != linear {
			t.Fatalf("the change of the sum at the bit %d is not linear", from)
		}
		if rank(changes) != 32 {
			t.Fatalf("some burst at the bit %d does not change the sum", from)
		}
	}
}

// rank returns how many of the rows of bits are independent of each other.
func rank(rows []uint32) int {
	var leading [32]uint32
	n := 0
	for _, row := range rows {
		for bit := 31; bit >= 0 && row != 0; bit-- {
			if row>>bit&1 == 0 {
				continue
			}
			if leading[bit] == 0 {
				leading[bit] = row
				n++
				break
			}
			row ^= leading[bit]
		}
	}
	return n
}

func FuzzAccepted(f *testing.F) {
	for _, c := range ints {
		f.Add(c.s, 0)
		f.Add("a"+c.s+"b", 1)
	}
	f.Add("\x04abc", 0)
	f.Add("\x80\x00", 0)
	f.Fuzz(func(t *testing.T, s string, at int) {
		checkAccepted(t, s, at)
	})
}

// Package wire is layer 1: the encoding of integers and strings as bytes, and checksums. See shared/doc/01-wire.md.
package wire

import (
	"iter"
	"strings"

	"putlog/api"
)

// An unsigned LEB128 encoding has groups of 7 bits; every byte but the last one carries the flag more. The greatest folded integer has 63 bits, and so maxGroups groups.
const (
	groupBits = 7
	more      = 1 << groupBits
	maxGroups = 9
	maxFolded = 2 * api.MaxInt
)

// sums has, for each value of 4 bits, what the register of the checksum becomes when these bits are shifted out of it.
var sums = [16]uint32{
	0x00000000, 0x105ec76f, 0x20bd8ede, 0x30e349b1,
	0x417b1dbc, 0x5125dad3, 0x61c69362, 0x7198540d,
	0x82f63b78, 0x92a8fc17, 0xa24bb5a6, 0xb21572c9,
	0xc38d26c4, 0xd3d3e1ab, 0xe330a81a, 0xf36e6f75,
}

// PutInt returns the encoding of n, or ErrWire if n is not from -MaxInt to MaxInt.
func PutInt(n int) (string, api.Errno) {
	if n < -api.MaxInt || n > api.MaxInt {
		return "", api.ErrWire
	}
	var bytes [maxGroups]byte
	size := 0
	for b := range groups(fold(n)) {
		bytes[size] = b
		size++
	}
	return string(bytes[:size]), api.OK
}

// Int decodes the integer whose encoding begins at offset at of s, and returns it and the offset after the encoding.
func Int(s string, at int) (int, int, api.Errno) {
	if at < 0 || at > len(s) {
		return 0, 0, api.ErrArg
	}
	z := uint64(0)
	for i := range min(maxGroups, len(s)-at) {
		b := s[at+i]
		z |= uint64(b%more) << (groupBits * i)
		if b >= more {
			continue
		}
		superfluous := b == 0 && i > 0
		if superfluous || z > maxFolded {
			return 0, 0, api.ErrWire
		}
		return unfold(z), at + i + 1, api.OK
	}
	return 0, 0, api.ErrWire
}

// PutString returns the encoding of s, or ErrWire if s has more than MaxString bytes.
func PutString(s string) (string, api.Errno) {
	if len(s) > api.MaxString {
		return "", api.ErrWire
	}
	size, err := PutInt(len(s))
	if err != api.OK {
		return "", err
	}
	return size + s, api.OK
}

// String decodes the string whose encoding begins at offset at of s, and returns it and the offset after the encoding.
func String(s string, at int) (string, int, api.Errno) {
	size, from, err := Int(s, at)
	if err != api.OK {
		return "", 0, err
	}
	if size < 0 || size > api.MaxString || size > len(s)-from {
		return "", 0, api.ErrWire
	}
	// A substring would keep all of s alive.
	return strings.Clone(s[from : from+size]), from + size, api.OK
}

// Sum returns the CRC-32C checksum of s.
func Sum(s string) int {
	register := ^uint32(0)
	for i := range len(s) {
		register ^= uint32(s[i])
		for range 2 {
			register = register>>4 ^ sums[register%16]
		}
	}
	return int(^register)
}

// groups yields the bytes of the unsigned LEB128 encoding of z.
func groups(z uint64) iter.Seq[byte] {
	return func(yield func(byte) bool) {
		rest := z
		for ; rest >= more; rest >>= groupBits {
			if !yield(byte(rest%more) + more) {
				return
			}
		}
		yield(byte(rest))
	}
}

// fold leads integers of both signs to integers that are not negative, so that small ones stay small. n is from -MaxInt to MaxInt.
func fold(n int) uint64 {
	if n < 0 {
		return 2*uint64(-n) - 1
	}
	return 2 * uint64(n)
}

// unfold is the inverse of fold. z is at most maxFolded.
func unfold(z uint64) int {
	half := int(z / 2)
	if z%2 == 1 {
		return -half - 1
	}
	return half
}

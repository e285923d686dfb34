// Package bits is layer 1: see shared/doc/01-bits.md.
package bits

import (
	mathbits "math/bits"
	"slices"
)

// perByte is how many bits a byte has.
const perByte = 8

// Get reports whether bit i of b is 1; a bit that b does not have is not.
func Get(b []byte, i int) bool {
	return has(b, i) && b[i/perByte]&mask(i) != 0
}

// Flip returns a copy of b with the bits at these positions inverted, each
// once for each time it is named; positions that b does not have are ignored.
func Flip(b []byte, at ...int) []byte {
	flipped := slices.Clone(b)
	for _, i := range at {
		if has(flipped, i) {
			flipped[i/perByte] ^= mask(i)
		}
	}
	return flipped
}

// Count returns how many bits of b are 1.
func Count(b []byte) int {
	ones := 0
	for _, v := range b {
		ones += mathbits.OnesCount8(v)
	}
	return ones
}

// Zeros returns how many bits of b are 0.
func Zeros(b []byte) int {
	return len(b)*perByte - Count(b)
}

// And returns the bitwise conjunction of a and b, as long as the longer one:
// the bytes that the shorter one lacks count as ones.
func And(a, b []byte) []byte {
	if len(a) < len(b) {
		a, b = b, a
	}
	both := slices.Clone(a)
	for i, v := range b {
		both[i] &= v
	}
	return both
}

// Diff returns the positions of the bits in which a and b differ, ascending,
// up to the length of the shorter one.
func Diff(a, b []byte) []int {
	var at []int
	for n := range min(len(a), len(b)) {
		for other := a[n] ^ b[n]; other != 0; other &= other - 1 {
			at = append(at, n*perByte+mathbits.TrailingZeros8(other))
		}
	}
	return at
}

// has reports whether b has a bit i. It divides i, and does not multiply the
// length, so that no position overflows; and it asks for the sign first,
// since a division rounds small negative positions to byte 0.
func has(b []byte, i int) bool {
	return i >= 0 && i/perByte < len(b)
}

// mask returns the byte in which only bit i's place is 1; i is not negative.
func mask(i int) byte {
	return 1 << (i % perByte)
}

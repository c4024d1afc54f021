// Package shift is whole numbers as bytes and bits: layer 1, see shared/doc/01-shift.md.
package shift

import "math/bits"

const (
	wordBytes = 8  // bytes of a uint64
	wordBits  = 64 // its bits
)

// Put is v's lowest size bytes, the highest of them first; none, unless size is from 0 to 8.
func Put(v uint64, size int) string {
	if !fitsWord(size) {
		return ""
	}
	b := make([]byte, size)
	for i := range size {
		b[size-1-i] = byte(v >> (8 * i))
	}
	return string(b)
}

// Get is the number that stands in s from at on in size bytes; false, if they are not there.
func Get(s string, at, size int) (uint64, bool) {
	// The difference is held against at, as at + size may wrap round.
	if !fitsWord(size) || at < 0 || at > len(s)-size {
		return 0, false
	}
	var v uint64
	for i := range size {
		v = v<<8 | uint64(s[at+i])
	}
	return v, true
}

// Signed is v's lowest bits as a number with a sign; 0, unless bits is from 1 to 64.
func Signed(v uint64, bits int) int64 {
	if !hasSign(bits) {
		return 0
	}
	unused := wordBits - bits
	// The way back is a shift of an int64, which draws the sign along.
	return int64(v<<unused) >> unused
}

// Fit is v held between the least and the greatest number with a sign of so many bits; 0, unless bits is from 1 to 64.
func Fit(v int64, bits int) int64 {
	if !hasSign(bits) {
		return 0
	}
	least := int64(-1) << (bits - 1)
	return min(max(v, least), ^least)
}

// Field is the bits of v from at on, bits of them, as a number; 0, if v has not that many there.
func Field(v uint64, at, bits int) uint64 {
	if !inWord(at, bits) {
		return 0
	}
	return (v >> at) & mask(bits)
}

// With is v with f's lowest bits in the field from at on; v, if it has not that many there.
func With(v uint64, at, bits int, f uint64) uint64 {
	if !inWord(at, bits) {
		return v
	}
	m := mask(bits)
	return v&^(m<<at) | (f&m)<<at
}

// Turn is v's bits turned to the left by n modulo 32; to the right, if n is below 0.
func Turn(v uint32, n int) uint32 {
	return bits.RotateLeft32(v, n)
}

// Count is how many bits of v are set.
func Count(v uint64) int {
	return bits.OnesCount64(v)
}

func fitsWord(size int) bool {
	return size >= 0 && size <= wordBytes
}

func hasSign(bits int) bool {
	return bits >= 1 && bits <= wordBits
}

func inWord(at, bits int) bool {
	// The difference is held against at, as at + bits may wrap round.
	return at >= 0 && bits >= 0 && at <= wordBits-bits
}

// mask is so many lowest bits set: of 64 the 1 is shifted out, and 0 less 1 is all.
func mask(bits int) uint64 {
	return 1<<bits - 1
}

// Package word is layer 1: numbers in bytes, turned and shifted bits, and conversions that lose nothing unsaid.
package word

import (
	"math"
	"math/bits"

	"signet/api"
)

const (
	byteBits = 8
	wordBits = 64
	maxShift = 62 // 2^63 is no int
)

// Bytes16 is a number's bytes, the lowest first.
func Bytes16(n uint16) [2]byte {
	var b [2]byte
	for i := range len(b) {
		b[i] = byte(n >> (byteBits * i))
	}
	return b
}

// Bytes32 is a number's bytes, the lowest first.
func Bytes32(n uint32) [4]byte {
	var b [4]byte
	for i := range len(b) {
		b[i] = byte(n >> (byteBits * i))
	}
	return b
}

// Bytes64 is a number's bytes, the lowest first.
func Bytes64(n uint64) [8]byte {
	var b [8]byte
	for i := range len(b) {
		b[i] = byte(n >> (byteBits * i))
	}
	return b
}

// Of16 is the number of bytes, the lowest first.
func Of16(b [2]byte) uint16 {
	var n uint16
	for i := range len(b) {
		n |= uint16(b[i]) << (byteBits * i)
	}
	return n
}

// Of32 is the number of bytes, the lowest first.
func Of32(b [4]byte) uint32 {
	var n uint32
	for i := range len(b) {
		n |= uint32(b[i]) << (byteBits * i)
	}
	return n
}

// Of64 is the number of bytes, the lowest first.
func Of64(b [8]byte) uint64 {
	var n uint64
	for i := range len(b) {
		n |= uint64(b[i]) << (byteBits * i)
	}
	return n
}

// Take16 is the number that stands in a text from a place on, and whether its bytes are all there.
func Take16(s string, at int) (uint16, bool) {
	var b [2]byte
	if !there(s, at, len(b)) {
		return 0, false
	}
	for i := range len(b) {
		b[i] = s[at+i]
	}
	return Of16(b), true
}

// Take32 is the number that stands in a text from a place on, and whether its bytes are all there.
func Take32(s string, at int) (uint32, bool) {
	var b [4]byte
	if !there(s, at, len(b)) {
		return 0, false
	}
	for i := range len(b) {
		b[i] = s[at+i]
	}
	return Of32(b), true
}

// Take64 is the number that stands in a text from a place on, and whether its bytes are all there.
func Take64(s string, at int) (uint64, bool) {
	var b [8]byte
	if !there(s, at, len(b)) {
		return 0, false
	}
	for i := range len(b) {
		b[i] = s[at+i]
	}
	return Of64(b), true
}

// there tells whether a text has so many bytes from a place on.
func there(s string, at, many int) bool {
	// The sum at+many could pass the greatest int; this difference can't.
	return at >= 0 && at <= len(s)-many
}

// Turn turns bits to the left, or to the right by less than 0.
func Turn(x uint32, by int) uint32 {
	return bits.RotateLeft32(x, by)
}

// Shift shifts bits to the left, or to the right by less than 0.
func Shift(x uint64, by int) uint64 {
	if by < 0 {
		return x >> size(by)
	}
	return x << size(by)
}

// Lean shifts a number with a sign to the left, or to the right by less than 0.
func Lean(x int64, by int) int64 {
	if by < 0 {
		return x >> size(by)
	}
	return x << size(by)
}

// size is how far a number is from 0. It has no sign, so that the least int's fits.
func size(by int) uint {
	if by < 0 {
		return -uint(by)
	}
	return uint(by)
}

// Extend is the lowest bits as a number with a sign.
func Extend(x uint64, bits int) (int64, api.Errno) {
	if bits < 1 || bits > wordBits {
		return 0, api.ErrBits
	}
	rest := wordBits - bits
	return int64(x<<rest) >> rest, api.OK
}

// Narrow is a number with a sign as its lowest bits.
func Narrow(n int64, bits int) (uint64, api.Errno) {
	same, err := Extend(uint64(n), bits)
	if err != api.OK {
		return 0, err
	}
	if same != n {
		return 0, api.ErrWide
	}
	return uint64(n) & lowest(bits), api.OK
}

// Int is a number without a sign as one with it.
func Int(x uint64) (int, api.Errno) {
	if x > math.MaxInt {
		return 0, api.ErrWide
	}
	return int(x), api.OK
}

// Word is a number as one of 32 bits.
func Word(n int) (uint32, api.Errno) {
	if n < 0 || uint64(n) > math.MaxUint32 {
		return 0, api.ErrWide
	}
	return uint32(n), api.OK
}

// Ones is how many bits are 1.
func Ones(x uint64) int {
	return bits.OnesCount64(x)
}

// High is the place of the highest bit that is 1, or -1.
func High(x uint64) int {
	return bits.Len64(x) - 1
}

// Low is the place of the lowest bit that is 1, or -1.
func Low(x uint64) int {
	if x == 0 {
		return -1
	}
	return bits.TrailingZeros64(x)
}

// Turned is a number of so many bytes with their order turned about.
func Turned(x uint64, bytes int) (uint64, api.Errno) {
	b := Bytes64(x)
	if bytes < 1 || bytes > len(b) {
		return 0, api.ErrBits
	}
	if x > lowest(byteBits*bytes) {
		return 0, api.ErrWide
	}
	var turned uint64
	for i := range bytes {
		turned = turned<<byteBits | uint64(b[i])
	}
	return turned, api.OK
}

// Over is a number over a power of two, rounded up.
func Over(n, shift int) (int, api.Errno) {
	if n < 0 {
		return 0, api.ErrArg
	}
	if shift < 0 || shift > maxShift {
		return 0, api.ErrBits
	}
	// Adding 2^shift - 1 ahead of the shift could pass the greatest int.
	over := n >> shift
	if over<<shift != n {
		over++
	}
	return over, api.OK
}

// Field is the number that some bits of a number are.
func Field(x uint64, at, bits int) (uint64, api.Errno) {
	if !inside(at, bits) {
		return 0, api.ErrBits
	}
	return x >> at & lowest(bits), api.OK
}

// Lay is a number with another one laid into some of its bits.
func Lay(x uint64, at, bits int, n uint64) (uint64, api.Errno) {
	if !inside(at, bits) {
		return 0, api.ErrBits
	}
	if n > lowest(bits) {
		return 0, api.ErrWide
	}
	return x&^(lowest(bits)<<at) | n<<at, api.OK
}

// inside tells whether a word has so many bits, one at the least, from a place on.
func inside(at, many int) bool {
	// The sum at+many could pass the greatest int; this difference can't, once many is known to be small.
	return many >= 1 && many <= wordBits && at >= 0 && at <= wordBits-many
}

// lowest is the word whose lowest bits, 1 to 64 of them, are 1.
func lowest(many int) uint64 {
	return ^uint64(0) >> (wordBits - many)
}

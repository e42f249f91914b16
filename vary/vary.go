// Package vary is layer 1: numbers whose first byte tells how many follow, without a sign and with one; see shared/doc/01-vary.md.
package vary

import (
	"iter"
	"math/bits"
)

// widest is how many bytes a number has at most.
const widest = 9

// Width is how many bytes a number has.
func Width(n uint64) int {
	w := 1
	for w < widest && n>>(7*w) != 0 {
		w++
	}
	return w
}

// Zig is a signed number as one without a sign: those near 0 stay small.
func Zig(n int64) uint64 {
	return uint64(n)<<1 ^ uint64(n>>63)
}

// Zag is the signed number of one without a sign.
func Zag(n uint64) int64 {
	return int64(n>>1) ^ -int64(n&1)
}

// mark is the bits of a first byte that tell a width.
func mark(w int) byte {
	return byte(uint(0xFF00) >> (w - 1))
}

// told is the width that a first byte tells.
func told(first byte) int {
	return bits.LeadingZeros8(^first) + 1
}

// digits tells a number's bytes and their places, the highest first, as if it were of the greatest width.
func digits(n uint64) iter.Seq2[int, byte] {
	return func(yield func(int, byte) bool) {
		for place := widest - 1; place >= 0; place-- {
			if !yield(place, byte(n>>(8*place))) {
				return
			}
		}
	}
}

// encode is a number's bytes.
func encode(n uint64) []byte {
	w := Width(n)
	b := make([]byte, 0, w)
places:
	for place, digit := range digits(n) {
		switch {
		case place >= w:
			continue places
		case place == w-1:
			digit |= mark(w)
		}
		b = append(b, digit)
	}
	return b
}

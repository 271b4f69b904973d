// Package word is layer 1, numbers of thirty-two bits: see shared/doc/01-word.md.
package word

import "math/bits"

// Size says whether a number is a size.
func Size(n int) bool { return n == 1 || n == 2 || n == 4 }

// Low is a word's low part.
func Low(v uint32, size int) (uint32, bool) {
	switch size {
	case 1:
		return v & 0xff, true
	case 2:
		return v & 0xffff, true
	case 4:
		return v, true
	}
	return 0, false
}

// Bytes are a word's first bytes.
func Bytes(v uint32, size int) []byte {
	if !Size(size) {
		return nil
	}
	b := make([]byte, size)
	for i := range b {
		b[i] = byte(v >> (8 * uint(i)))
	}
	return b
}

// Of is the number of some bytes.
func Of(b []byte) (uint32, bool) {
	if !Size(len(b)) {
		return 0, false
	}
	v := uint32(0)
	for i, c := range b {
		v |= uint32(c) << (8 * uint(i))
	}
	return v, true
}

// Add is a sum, and whether it wraps.
func Add(a, b uint32) (sum uint32, over bool) {
	sum = a + b
	// A sum that wrapped is less than both of its parts, one that did not is less than neither.
	return sum, sum < a
}

// Sub is a rest, and whether it wraps.
func Sub(a, b uint32) (rest uint32, under bool) { return a - b, a < b }

// First is the least bit that is 1.
func First(v uint32) (bit int, is bool) {
	for bit := range ones(v) {
		return bit, true
	}
	return 0, false
}

// Ones are all bits that are 1.
func Ones(v uint32) []int {
	var all []int
	for bit := range ones(v) {
		all = append(all, bit)
	}
	return all
}

// ones goes through the numbers of the bits that are 1, rising.
func ones(v uint32) func(yield func(bit int) bool) {
	return func(yield func(bit int) bool) {
		// One less than a word differs from it in its least 1 and below: what both have is all but that 1.
		for rest := v; rest != 0; rest &= rest - 1 {
			if !yield(bits.TrailingZeros32(rest)) {
				return
			}
		}
	}
}

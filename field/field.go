// Package field is layer 1: see shared/doc/01-field.md.
package field

import (
	"iter"

	"palanquin/api"
)

const (
	wordBits = 64
	halfBits = 32
)

// Get answers the n bits of w from bit at on.
func Get(w uint64, at int, n int) (uint64, api.Errno) {
	if !inWord(at, n) {
		return 0, api.ErrArg
	}
	return cut(w, at, n), api.OK
}

// Put answers w with the n bits from bit at on being v.
func Put(w uint64, at int, n int, v uint64) (uint64, api.Errno) {
	if !inWord(at, n) || !Fits(v, n) {
		return 0, api.ErrArg
	}
	return w&^(Mask(n)<<at) | v<<at, api.OK
}

// Mask answers a word of which the lowest n bits are set.
func Mask(n int) uint64 {
	if n < 1 {
		return 0
	}
	return cut(^uint64(0), 0, min(n, wordBits))
}

// Fits tells whether v has no bits but the lowest n.
func Fits(v uint64, n int) bool { return v&^Mask(n) == 0 }

// Sign answers the lowest n bits of v as a number whose highest bit counts negative.
func Sign(v uint64, n int) int64 {
	if !inWord(0, n) {
		return 0
	}
	return cut(int64(v), 0, n)
}

// Join answers the word of two halves.
func Join(high uint32, low uint32) uint64 { return uint64(high)<<halfBits | uint64(low) }

// Parts answers the halves of a word, the high one first.
func Parts(w uint64) (uint32, uint32) { return uint32(w >> halfBits), uint32(w & Mask(halfBits)) }

// Pack answers the word whose parts are v, of the widths n, from the lowest bits on.
func Pack(n []int, v []uint64) (uint64, api.Errno) {
	if len(n) != len(v) {
		return 0, api.ErrArg
	}
	w := uint64(0)
	for i, at := range starts(n) {
		next, e := Put(w, at, n[i], v[i])
		if e != api.OK {
			return 0, e
		}
		w = next
	}
	return w, api.OK
}

// Unpack answers the parts of w, of the widths n, from the lowest bits on.
func Unpack(n []int, w uint64) ([]uint64, api.Errno) {
	var parts []uint64
	end := 0
	for i, at := range starts(n) {
		v, e := Get(w, at, n[i])
		if e != api.OK {
			return nil, e
		}
		parts = append(parts, v)
		end = at + n[i]
	}
	if !Fits(w, end) {
		return nil, api.ErrArg
	}
	return parts, api.OK
}

// inWord tells whether n bits from bit at on lie in a word. It takes at from the
// word's width, as the sum of at and n could wrap round.
func inWord(at int, n int) bool { return at >= 0 && n >= 1 && n <= wordBits-at }

// cut leaves the n bits of w from bit at on, which must lie in the word. It shifts
// them up and down again, so that the word's type says what comes above them: 0 if
// it is unsigned, their highest bit if it is signed.
func cut[W uint64 | int64](w W, at int, n int) W {
	return w << (wordBits - at - n) >> (wordBits - n)
}

// starts goes over the parts of the widths n: each one's place in n, and the bit at
// which it begins. It trusts whoever goes over it to leave at a width that can't be,
// so that the sum never wraps round.
func starts(n []int) iter.Seq2[int, int] {
	return func(yield func(int, int) bool) {
		at := 0
		for i, width := range n {
			if !yield(i, at) {
				return
			}
			at += width
		}
	}
}

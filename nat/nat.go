// Package nat implements natural numbers of any size: see DOC.md, chapter 1.
package nat

import "cmp"

// N is a number: its words of 32 bits, the least significant one first. The
// last word of a valid number is not 0; 0 has no words.
type N struct{ L []uint32 }

// Good reports whether a is valid.
func Good(a N) bool {
	return len(a.L) == 0 || a.L[len(a.L)-1] != 0
}

// Of returns n.
func Of(n uint64) N {
	return N{trim([]uint32{uint32(n), uint32(n >> 32)})}
}

// Low returns a as a uint64, or false if it does not fit.
func Low(a N) (uint64, bool) {
	words := trim(a.L)
	switch len(words) {
	case 0:
		return 0, true
	case 1:
		return uint64(words[0]), true
	case 2:
		return uint64(words[1])<<32 | uint64(words[0]), true
	}
	return 0, false
}

// Cmp returns -1, 0 or 1 if a is less than, equal to or greater than b.
func Cmp(a, b N) int {
	return compare(trim(a.L), trim(b.L))
}

// trim cuts the zero words off the end. What it returns shares memory with l.
func trim(l []uint32) []uint32 {
	for len(l) > 0 && l[len(l)-1] == 0 {
		l = l[:len(l)-1]
	}
	return l
}

// compare orders two lists of words that are trimmed.
func compare(x, y []uint32) int {
	if len(x) != len(y) {
		return cmp.Compare(len(x), len(y))
	}
	for i := len(x) - 1; i >= 0; i-- {
		if x[i] != y[i] {
			return cmp.Compare(x[i], y[i])
		}
	}
	return 0
}

// fresh returns the words in memory of their own.
func fresh(l []uint32) []uint32 {
	words := make([]uint32, len(l))
	copy(words, l)
	return words
}

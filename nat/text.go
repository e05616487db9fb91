package nat

import (
	"slices"
	"strings"
)

// Texts are read and written in groups of digits: as many as always fit a word.
const (
	groupDigits = 9
	groupValue  = 1_000_000_000
)

// Text returns a in base ten.
func Text(a N) string {
	left := fresh(trim(a.L))
	if len(left) == 0 {
		return "0"
	}
	var digits []byte
	for len(left) > 0 {
		group := divideByWord(left, groupValue)
		left = trim(left)
		for range groupDigits {
			digits = append(digits, byte('0'+group%10))
			group /= 10
		}
	}
	slices.Reverse(digits)
	return strings.TrimLeft(string(digits), "0")
}

// Parse returns the number that s contains in base ten, or false if s is empty
// or contains anything other than digits.
func Parse(s string) (N, bool) {
	if !isDigits(s) {
		return N{}, false
	}
	digits := strings.TrimLeft(s, "0")
	words := make([]uint32, 0, len(digits)/groupDigits+1)
	for len(digits) > 0 {
		// The first group takes what the others, which are whole, leave over.
		size := (len(digits)-1)%groupDigits + 1
		words = appendGroup(words, valueOf(digits[:size]))
		digits = digits[size:]
	}
	return N{words}, true
}

// isDigits reports whether s consists of one or more digits.
func isDigits(s string) bool {
	for i := range len(s) {
		if s[i] < '0' || s[i] > '9' {
			return false
		}
	}
	return s != ""
}

// valueOf returns the number that one group of digits writes.
func valueOf(digits string) uint32 {
	value := uint32(0)
	for i := range len(digits) {
		value = value*10 + uint32(digits[i]-'0')
	}
	return value
}

// appendGroup puts a group of digits after those that words has, in its place.
func appendGroup(words []uint32, group uint32) []uint32 {
	carry := uint64(group)
	for i, word := range words {
		carry += uint64(word) * groupValue
		words[i] = uint32(carry)
		carry >>= 32
	}
	if carry > 0 {
		words = append(words, uint32(carry))
	}
	return words
}

package nat

import (
	"math"
	"math/bits"
)

// Div returns the quotient and the remainder, or false if b is 0.
func Div(a, b N) (q, r N, ok bool) {
	x, y := trim(a.L), trim(b.L)
	switch {
	case len(y) == 0:
		return N{}, N{}, false
	case compare(x, y) < 0:
		return N{}, N{fresh(x)}, true
	case len(y) == 1:
		quotient := fresh(x)
		rest := divideByWord(quotient, y[0])
		return N{trim(quotient)}, Of(uint64(rest)), true
	}
	quotient, rest := divideLong(x, y)
	return N{trim(quotient)}, N{trim(rest)}, true
}

// Gcd returns the greatest common divisor, and 0 if both are 0.
func Gcd(a, b N) N {
	x, y := fresh(trim(a.L)), fresh(trim(b.L))
	for len(y) > 0 {
		_, rest, _ := Div(N{x}, N{y})
		x, y = y, rest.L
	}
	return N{x}
}

// divideByWord divides l in its place by a divisor that is not 0, and returns
// the remainder.
func divideByWord(l []uint32, divisor uint32) uint32 {
	rest := uint64(0)
	for i := len(l) - 1; i >= 0; i-- {
		rest = rest<<32 | uint64(l[i])
		l[i] = uint32(rest / uint64(divisor))
		rest %= uint64(divisor)
	}
	return uint32(rest)
}

// divideLong divides x by y as on paper, with words for digits (Knuth, The Art
// of Computer Programming, volume 2, algorithm D). Both are trimmed, y has two
// words or more, and x is not less than y.
func divideLong(x, y []uint32) (quotient, rest []uint32) {
	// A digit can be guessed well only if the divisor's highest bit is set.
	shift := bits.LeadingZeros32(y[len(y)-1])
	divisor := shiftLeft(y, shift)[:len(y)]
	left := shiftLeft(x, shift)
	quotient = make([]uint32, len(x)-len(y)+1)
	for i := len(quotient) - 1; i >= 0; i-- {
		quotient[i] = divideStep(left[i:i+len(y)+1], divisor)
	}
	return quotient, shiftRight(left[:len(y)], shift)
}

// divideStep returns one digit of the quotient. Of left, which has one word
// more than divisor, it leaves what remains in all words but the last, which
// is not read again.
func divideStep(left, divisor []uint32) uint32 {
	digit := guessDigit(left, divisor)
	if subMultiple(left, divisor, digit) {
		// The guess was too great by 1, which is rare. What is carried out of
		// this sum makes up for having gone below 0.
		digit--
		addMultiple(left[:len(divisor)], divisor, 1)
	}
	return digit
}

// guessDigit tells the next digit of the quotient from the three highest words
// of left and the two highest ones of divisor: it is right, or too great by 1.
func guessDigit(left, divisor []uint32) uint32 {
	last := len(divisor)
	high, next := uint64(divisor[last-1]), uint64(divisor[last-2])
	top := uint64(left[last])<<32 | uint64(left[last-1])
	digit, rest := top/high, top%high
	for digit > math.MaxUint32 || digit*next > rest<<32|uint64(left[last-2]) {
		digit--
		rest += high
		if rest > math.MaxUint32 {
			break
		}
	}
	return uint32(digit)
}

// subMultiple takes factor times y from left, which has one word more than y,
// and reports whether that goes below 0. The last word of left stays as it is.
func subMultiple(left, y []uint32, factor uint32) bool {
	carry := uint64(0)
	for i, word := range y {
		carry += uint64(word) * uint64(factor)
		taken := uint32(carry)
		carry >>= 32
		if left[i] < taken {
			carry++
		}
		left[i] -= taken
	}
	return uint64(left[len(y)]) < carry
}

// shiftLeft returns l times 2^shift, in one word more. The shift is from 0 to 31.
func shiftLeft(l []uint32, shift int) []uint32 {
	shifted := make([]uint32, len(l)+1)
	for i, word := range l {
		wide := uint64(word) << shift
		shifted[i] |= uint32(wide)
		shifted[i+1] = uint32(wide >> 32)
	}
	return shifted
}

// shiftRight returns l divided by 2^shift. The shift is from 0 to 31.
func shiftRight(l []uint32, shift int) []uint32 {
	shifted := make([]uint32, len(l))
	for i, word := range l {
		wide := uint64(word) << 32 >> shift
		shifted[i] = uint32(wide >> 32)
		if i > 0 {
			shifted[i-1] |= uint32(wide)
		}
	}
	return shifted
}

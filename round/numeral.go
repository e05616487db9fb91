package round

import (
	"cubit/api"
	"cubit/dec"
	"cubit/nat"
	"cubit/num"
	"cubit/rat"
)

// maxDigits is the greatest number of digits that Sig rounds to.
const maxDigits = 40

// To rounds r to so many digits after the point. The error is EARG if the mode
// or the scale is not valid.
func To(r rat.Q, scale, mode int) (dec.D, api.Errno) {
	if !Mode(mode) || scale < 0 || scale > api.MaxScale {
		return dec.D{}, api.EARG
	}
	return multiple(r, unit(scale), mode), api.OK
}

// Step rounds r to a multiple of step, with its Scale. The error is EARG if the
// mode or the step is not valid or the step is 0 or less.
func Step(r rat.Q, step dec.D, mode int) (dec.D, api.Errno) {
	if !Mode(mode) || !dec.Good(step) || step.Neg || nat.Cmp(step.N, nat.N{}) == 0 {
		return dec.D{}, api.EARG
	}
	return multiple(r, step, mode), api.OK
}

// Sig rounds r to so many digits from its first one that is not 0. The error is
// EARG if the mode or the number of digits is not valid, and ESIZE if a numeral
// has no room for so many digits after the point.
func Sig(r rat.Q, digits, mode int) (dec.D, api.Errno) {
	if !Mode(mode) || digits < 1 || digits > maxDigits {
		return dec.D{}, api.EARG
	}
	if rat.Sign(r) == 0 {
		return dec.D{Scale: digits - 1}, api.OK
	}
	scale := digits - 1 - exponent(r)
	if scale > api.MaxScale {
		return dec.D{}, api.ESIZE
	}
	return limit(multiple(r, unit(scale), mode), digits), api.OK
}

// multiple returns the multiple of step by Int of r divided by step. The mode
// and the step are valid, and the step is greater than 0.
func multiple(r rat.Q, step dec.D, mode int) dec.D {
	over := num.Mul(r.P, num.Z{N: power(step.Scale)})
	times := whole(over, nat.Mul(r.Q, step.N), mode)
	return dec.D{Neg: times.Neg, N: nat.Mul(times.N, step.N), Scale: step.Scale}
}

// unit returns 10 to the power of -scale, with that Scale, or with 0 if it is
// negative.
func unit(scale int) dec.D {
	if scale < 0 {
		return dec.D{N: power(-scale)}
	}
	return dec.D{N: nat.Of(1), Scale: scale}
}

// exponent returns the e for which the absolute value of r, which is not 0, is
// at least 10^e and less than 10^(e + 1).
func exponent(r rat.Q) int {
	// A number of a digits over one of b digits is greater than 10^(a - b - 1)
	// and less than 10^(a - b + 1).
	e := len(nat.Text(r.P.N)) - len(nat.Text(r.Q))
	bound, _ := rat.Pow(rat.Int(10), e)
	if rat.Cmp(rat.Q{P: num.Z{N: r.P.N}, Q: r.Q}, bound) < 0 {
		return e - 1
	}
	return e
}

// limit takes the last zero off d if rounding has given it one digit too many
// and there is a zero after the point. It may share memory with d.
func limit(d dec.D, digits int) dec.D {
	if d.Scale == 0 || nat.Cmp(d.N, power(digits)) < 0 {
		return d
	}
	n, _, _ := nat.Div(d.N, nat.Of(10))
	return dec.D{Neg: d.Neg, N: n, Scale: d.Scale - 1}
}

// power returns 10 to the power of k.
func power(k int) nat.N {
	return nat.Pow(nat.Of(10), k)
}

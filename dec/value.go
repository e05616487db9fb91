package dec

import (
	"cubit/api"
	"cubit/nat"
	"cubit/num"
	"cubit/rat"
)

// Rat returns the value of a.
func Rat(a D) rat.Q {
	a = counted(a)
	value, _ := rat.Of(num.Z{Neg: a.Neg, N: a.N}, power(a.Scale))
	return value
}

// Of returns the numeral with the least Scale whose value is r, or false if
// that Scale is greater than most or than MaxScale. A negative most counts as 0.
func Of(r rat.Q, most int) (D, bool) {
	low, ok := rat.Of(r.P, r.Q)
	if !ok {
		// A fraction over 0 counts as 0.
		return D{}, true
	}
	for scale := range min(max(most, 0), api.MaxScale) + 1 {
		factor, rest, _ := nat.Div(power(scale), low.Q)
		if isZero(rest) {
			return D{low.P.Neg, nat.Mul(low.P.N, factor), scale}, true
		}
	}
	return D{}, false
}

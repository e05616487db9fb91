package rat

import (
	"cubit/nat"
	"cubit/num"
)

// Neg returns -a.
func Neg(a Q) Q {
	p, q := terms(a)
	return lowest(num.Neg(p), q)
}

// Add returns the sum.
func Add(a, b Q) Q {
	p, q := terms(a)
	r, s := terms(b)
	return lowest(num.Add(times(p, s), times(r, q)), nat.Mul(q, s))
}

// Mul returns the product.
func Mul(a, b Q) Q {
	p, q := terms(a)
	r, s := terms(b)
	return lowest(num.Mul(p, r), nat.Mul(q, s))
}

// Inv returns 1 / a, or false if a is 0.
func Inv(a Q) (Q, bool) {
	p, q := terms(a)
	return Of(num.Z{Neg: p.Neg, N: q}, p.N)
}

// Pow returns a to the power of k, or false if a is 0 and k is negative.
func Pow(a Q, k int) (Q, bool) {
	base := lowest(terms(a))
	if k < 0 {
		turned, ok := Inv(base)
		if !ok {
			return Q{}, false
		}
		base = turned
	}
	// Powers of terms without a common divisor have none either.
	over, under := power(base.P.N, k), power(base.Q, k)
	return Q{num.Z{Neg: base.P.Neg && k%2 != 0, N: over}, under}, true
}

// power returns n to the power of k, or of -k if k is negative.
func power(n nat.N, k int) nat.N {
	if k < 0 {
		// The least int has no opposite: one factor is left out of the power.
		return nat.Mul(nat.Pow(n, -(k+1)), n)
	}
	return nat.Pow(n, k)
}

// Floor returns the greatest integer that is at most a.
func Floor(a Q) num.Z {
	p, q := terms(a)
	// The remainder is never negative, so that the quotient lies below.
	quotient, _, _ := num.Div(p, num.Z{N: q})
	return quotient
}

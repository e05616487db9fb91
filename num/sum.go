package num

import "cubit/nat"

// Neg returns -a.
func Neg(a Z) Z {
	// The sum is new memory, and valid even if a is not.
	return signed(!a.Neg, nat.Add(a.N, nat.N{}))
}

// Add returns the sum.
func Add(a, b Z) Z {
	if a.Neg == b.Neg {
		return signed(a.Neg, nat.Add(a.N, b.N))
	}
	if difference, ok := nat.Sub(a.N, b.N); ok {
		return signed(a.Neg, difference)
	}
	difference, _ := nat.Sub(b.N, a.N)
	return signed(b.Neg, difference)
}

// Mul returns the product.
func Mul(a, b Z) Z {
	return signed(a.Neg != b.Neg, nat.Mul(a.N, b.N))
}

// Div returns the quotient and the remainder, which is never negative, or
// false if b is 0.
func Div(a, b Z) (q, r Z, ok bool) {
	quotient, rest, ok := nat.Div(a.N, b.N)
	if !ok {
		return Z{}, Z{}, false
	}
	if a.Neg && !isZero(rest) {
		// What remains of a negative number lies below 0: one more b lifts it.
		quotient = nat.Add(quotient, nat.Of(1))
		rest, _ = nat.Sub(b.N, rest)
	}
	return signed(a.Neg != b.Neg, quotient), signed(false, rest), true
}

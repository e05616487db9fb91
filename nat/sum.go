package nat

// Add returns the sum.
func Add(a, b N) N {
	long, short := trim(a.L), trim(b.L)
	if len(long) < len(short) {
		long, short = short, long
	}
	sum := make([]uint32, len(long)+1)
	carry := uint64(0)
	for i, word := range long {
		carry += uint64(word)
		if i < len(short) {
			carry += uint64(short[i])
		}
		sum[i] = uint32(carry)
		carry >>= 32
	}
	sum[len(long)] = uint32(carry)
	return N{trim(sum)}
}

// Sub returns the difference, or false if a is less than b.
func Sub(a, b N) (N, bool) {
	x, y := trim(a.L), trim(b.L)
	if compare(x, y) < 0 {
		return N{}, false
	}
	difference := make([]uint32, len(x))
	borrow := uint64(0)
	for i, word := range x {
		taken := borrow
		if i < len(y) {
			taken += uint64(y[i])
		}
		// What goes below 0 wraps round, which sets the highest bit.
		left := uint64(word) - taken
		difference[i] = uint32(left)
		borrow = left >> 63
	}
	return N{trim(difference)}, true
}

// Mul returns the product.
func Mul(a, b N) N {
	x, y := trim(a.L), trim(b.L)
	product := make([]uint32, len(x)+len(y))
	for i, word := range x {
		// High powers of 2 and of 10 have many words that are 0.
		if word == 0 {
			continue
		}
		product[i+len(y)] = addMultiple(product[i:i+len(y)], y, word)
	}
	return N{trim(product)}
}

// addMultiple adds factor times y to the words of sum, which are as many, and
// returns the word that is carried out of them.
func addMultiple(sum, y []uint32, factor uint32) uint32 {
	carry := uint64(0)
	for i, word := range y {
		// This is at most 2^64 - 1, even if every word is as great as can be.
		carry += uint64(word)*uint64(factor) + uint64(sum[i])
		sum[i] = uint32(carry)
		carry >>= 32
	}
	return uint32(carry)
}

// Pow returns a to the power of k, and 1 if k is less than 1.
func Pow(a N, k int) N {
	power := Of(1)
	square := a
	for k > 0 {
		if k%2 == 1 {
			power = Mul(power, square)
		}
		k /= 2
		// The last square would be the costliest one, and is not needed.
		if k > 0 {
			square = Mul(square, square)
		}
	}
	return power
}

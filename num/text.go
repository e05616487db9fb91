package num

import (
	"strings"

	"cubit/nat"
)

const minus = "-"

// Text returns a in base ten, with a minus before a negative number.
func Text(a Z) string {
	if Sign(a) < 0 {
		return minus + nat.Text(a.N)
	}
	return nat.Text(a.N)
}

// Parse returns the number that s contains in base ten, with a minus or nothing
// before the digits, or false if s is anything else.
func Parse(s string) (Z, bool) {
	digits, negative := strings.CutPrefix(s, minus)
	n, ok := nat.Parse(digits)
	if !ok {
		return Z{}, false
	}
	return signed(negative, n), true
}

package rat

import (
	"strings"

	"cubit/nat"
	"cubit/num"
)

const line = "/"

// Text returns a in base ten: an integer, or two of them with a line between.
func Text(a Q) string {
	low := lowest(terms(a))
	if isOne(low.Q) {
		return num.Text(low.P)
	}
	return num.Text(low.P) + line + nat.Text(low.Q)
}

// Parse returns the fraction that s contains in the form of Text, in which the
// terms need not be the lowest ones, or false if s is anything else.
func Parse(s string) (Q, bool) {
	over, under, divided := strings.Cut(s, line)
	p, ok := num.Parse(over)
	if !ok {
		return Q{}, false
	}
	if !divided {
		return Of(p, nat.Of(1))
	}
	q, ok := nat.Parse(under)
	if !ok {
		return Q{}, false
	}
	return Of(p, q)
}

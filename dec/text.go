package dec

import (
	"strings"

	"cubit/api"
	"cubit/nat"
)

const (
	minus = "-"
	point = "."
)

// Text returns a in base ten, with a minus before a negative numeral and a
// point before the Scale digits that follow it, if there are any.
func Text(a D) string {
	a = counted(a)
	text := nat.Text(Whole(a))
	if a.Neg {
		text = minus + text
	}
	if a.Scale == 0 {
		return text
	}
	return text + point + Part(a)
}

// Parse returns the numeral that s contains in the form of Text, which may have
// more zeros at its front. The error is ESIZE if s is too long, and EFORM if it
// is anything else.
func Parse(s string) (D, api.Errno) {
	if len(s) > api.MaxText {
		return D{}, api.ESIZE
	}
	digits, negative := strings.CutPrefix(s, minus)
	whole, part, pointed := strings.Cut(digits, point)
	if whole == "" || pointed && part == "" || len(part) > api.MaxScale {
		return D{}, api.EFORM
	}
	n, ok := nat.Parse(whole + part)
	if !ok {
		return D{}, api.EFORM
	}
	return D{negative && !isZero(n), n, len(part)}, api.OK
}

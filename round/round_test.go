package round_test

import (
	"math"
	"math/big"
	"slices"
	"strconv"
	"strings"
	"testing"

	"cubit/api"
	"cubit/dec"
	"cubit/nat"
	"cubit/num"
	"cubit/rat"
	"cubit/round"
)

// wrongModes are modes that there are not.
var wrongModes = []int{math.MinInt, -7, -1, 0, 8, 9, 1 << 32, 1<<32 + 1, math.MaxInt}

// bigNat makes a number of the library, which tells what a result should be.
func bigNat(n nat.N) *big.Int {
	value := new(big.Int)
	for _, word := range slices.Backward(n.L) {
		value.Lsh(value, 32)
		value.Or(value, big.NewInt(int64(word)))
	}
	return value
}

func bigInt(z num.Z) *big.Int {
	value := bigNat(z.N)
	if z.Neg {
		value.Neg(value)
	}
	return value
}

// bigRat makes a fraction of the library, even of one that is not valid.
func bigRat(r rat.Q) *big.Rat {
	under := bigNat(r.Q)
	if under.Sign() == 0 {
		return new(big.Rat)
	}
	return new(big.Rat).SetFrac(bigInt(r.P), under)
}

func natOf(value *big.Int) nat.N {
	n, _ := nat.Parse(value.String())
	return n
}

func words(list ...uint32) nat.N { return nat.N{L: list} }

func fraction(negative bool, over, under nat.N) rat.Q {
	return rat.Q{P: num.Z{Neg: negative, N: over}, Q: under}
}

// frac reads a fraction, and fails the test if it is none.
func frac(t *testing.T, s string) rat.Q {
	t.Helper()
	r, ok := rat.Parse(s)
	if !ok {
		t.Fatalf("%s is no fraction", s)
	}
	return r
}

// numeral reads a numeral, and fails the test if it is none.
func numeral(t *testing.T, s string) dec.D {
	t.Helper()
	d, e := dec.Parse(s)
	if e != api.OK {
		t.Fatalf("%s is no numeral", s)
	}
	return d
}

// ten returns 10 to the power of k, which may be negative.
func ten(k int) *big.Rat {
	power := new(big.Int).Exp(big.NewInt(10), big.NewInt(int64(max(k, -k))), nil)
	value := new(big.Rat).SetInt(power)
	if k < 0 {
		value.Inv(value)
	}
	return value
}

// adjacent returns the integers on both sides of r: the one nearer to 0 first.
// They are the same one if r is an integer.
func adjacent(r *big.Rat) (inner, outer *big.Int) {
	inner, rest := new(big.Int).QuoRem(r.Num(), r.Denom(), new(big.Int))
	return inner, new(big.Int).Add(inner, big.NewInt(int64(rest.Sign())))
}

// wantInt tells what Int should be, from the two adjacent integers as the
// chapter says it.
func wantInt(r *big.Rat, mode int) *big.Int {
	inner, outer := adjacent(r)
	lesser, greater := inner, outer
	if r.Sign() < 0 {
		lesser, greater = outer, inner
	}
	middle := new(big.Rat).SetFrac(new(big.Int).Add(inner, outer), big.NewInt(2))
	nearer := new(big.Rat).Abs(r).Cmp(middle.Abs(middle))
	switch {
	case mode == api.Down, mode >= api.HalfDown && nearer < 0, mode == api.HalfDown && nearer == 0:
		return inner
	case mode == api.Up, mode >= api.HalfDown && nearer > 0, mode == api.HalfUp:
		return outer
	case mode == api.Floor:
		return lesser
	case mode == api.Ceil:
		return greater
	case inner.Bit(0) == 0:
		return inner
	}
	return outer
}

// isValid looks at a numeral itself, so that the tests do not lean on Good.
func isValid(d dec.D) bool {
	size := len(d.N.L)
	return (size == 0 || d.N.L[size-1] != 0) && d.Scale >= 0 && d.Scale <= 60 && !(d.Neg && size == 0)
}

// wants fails the test if d is not valid or not the numeral that is wanted.
func wants(t *testing.T, what string, d dec.D, e api.Errno, digits *big.Int, scale int) {
	t.Helper()
	got := bigInt(num.Z{Neg: d.Neg, N: d.N})
	if e != api.OK || !isValid(d) || got.Cmp(digits) != 0 || d.Scale != scale {
		t.Errorf("%s: %s with scale %d, error %d, want %s with scale %d", what, got, d.Scale, e, digits, scale)
	}
}

// refused fails the test if a call does not return the error alone.
func refused(t *testing.T, what string, d dec.D, e, want api.Errno) {
	t.Helper()
	if e != want || d.Neg || len(d.N.L) != 0 || d.Scale != 0 {
		t.Errorf("%s: %v, error %d, want error %d", what, d, e, want)
	}
}

// samples returns fractions of both signs: integers, halves, what lies just
// beside them, and great and small ones.
func samples(t *testing.T) []rat.Q {
	texts := []string{
		"0", "1", "2", "3", "10", "99", "100", "4294967295", "4294967296", "18446744073709551616",
		"1/2", "3/2", "5/2", "7/2", "19/2", "21/2", "4294967295/2", "8589934591/2", "8589934593/2", "36893488147419103233/2",
		"1/3", "2/3", "4/3", "5/3", "49/100", "51/100", "149/100", "151/100", "249/100", "251/100",
		"4999999999999999999999/10000000000000000000000", "5000000000000000000001/10000000000000000000000",
		"1/18446744073709551616", "18446744073709551617/18446744073709551616", "18446744073709551615/18446744073709551616",
		"1/8", "3/8", "5/8", "1/1000", "5/1000", "15/1000", "995/1000", "9995/10000", "1005/1000", "99/1000", "95/10000",
		"999/10", "9999999/1000", "123456", "999999", "950000", "850000", "12345678901234567890123456789/7",
		"1" + strings.Repeat("0", 80), strings.Repeat("9", 80), "5" + strings.Repeat("0", 80) + "1/11",
		"1/1" + strings.Repeat("0", 39), "7/3" + strings.Repeat("0", 59), "1/" + strings.Repeat("9", 25),
	}
	var list []rat.Q
	for _, text := range texts {
		list = append(list, frac(t, text), frac(t, "-"+text))
	}
	return list
}

// wrongs returns fractions that are not valid, which count as others.
func wrongs() []rat.Q {
	return []rat.Q{
		{},
		fraction(true, nat.N{}, nat.N{}),
		fraction(false, nat.Of(5), nat.N{}),
		fraction(true, nat.Of(5), words(0, 0)),
		fraction(true, nat.N{}, nat.Of(1)),
		fraction(true, words(0, 0), nat.Of(7)),
		fraction(false, nat.Of(10), nat.Of(4)),
		fraction(true, nat.Of(10), nat.Of(4)),
		fraction(true, nat.Of(18), nat.Of(6)),
		fraction(false, words(7, 0), words(2, 0, 0)),
		fraction(true, words(7, 0), words(2, 0, 0)),
		fraction(false, words(0, 0, 0), words(2, 0)),
		fraction(false, nat.Of(999000), nat.Of(10000)),
		fraction(true, words(1, 1, 0), words(0, 3, 0)),
	}
}

func TestMode(t *testing.T) {
	for mode := 1; mode <= 7; mode++ {
		if !round.Mode(mode) {
			t.Errorf("Mode(%d) is false", mode)
		}
	}
	for _, mode := range wrongModes {
		if round.Mode(mode) {
			t.Errorf("Mode(%d) is true", mode)
		}
	}
}

// TestInt has what every mode makes of both sides of every kind of place
// between two integers: Down, Up, Floor, Ceil, HalfDown, HalfUp, HalfEven.
func TestInt(t *testing.T) {
	for text, want := range map[string][7]int64{
		"5/2": {2, 3, 2, 3, 2, 3, 2}, "-5/2": {-2, -3, -3, -2, -2, -3, -2},
		"7/2": {3, 4, 3, 4, 3, 4, 4}, "-7/2": {-3, -4, -4, -3, -3, -4, -4},
		"1/2": {0, 1, 0, 1, 0, 1, 0}, "-1/2": {0, -1, -1, 0, 0, -1, 0},
		"3/2": {1, 2, 1, 2, 1, 2, 2}, "-3/2": {-1, -2, -2, -1, -1, -2, -2},
		"1/3": {0, 1, 0, 1, 0, 0, 0}, "-1/3": {0, -1, -1, 0, 0, 0, 0},
		"2/3": {0, 1, 0, 1, 1, 1, 1}, "-2/3": {0, -1, -1, 0, -1, -1, -1},
		"16/5": {3, 4, 3, 4, 3, 3, 3}, "-19/5": {-3, -4, -4, -3, -4, -4, -4},
		"0": {}, "6": {6, 6, 6, 6, 6, 6, 6}, "-7": {-7, -7, -7, -7, -7, -7, -7},
	} {
		for i, whole := range want {
			z, e := round.Int(frac(t, text), i+1)
			if e != api.OK || !num.Good(z) || bigInt(z).Int64() != whole {
				t.Errorf("Int(%s, %d): %s, error %d, want %d", text, i+1, num.Text(z), e, whole)
			}
		}
	}
}

func TestIntAgainstBig(t *testing.T) {
	for _, r := range append(samples(t), wrongs()...) {
		for mode := api.Down; mode <= api.HalfEven; mode++ {
			z, e := round.Int(r, mode)
			want := wantInt(bigRat(r), mode)
			if e != api.OK || !num.Good(z) || bigInt(z).Cmp(want) != 0 {
				t.Errorf("Int(%v, %d): %v, error %d, want %s", r, mode, z, e, want)
			}
		}
	}
}

func TestWrongModes(t *testing.T) {
	half, step := frac(t, "-1/2"), numeral(t, "0.5")
	for _, mode := range wrongModes {
		what := "mode " + strconv.Itoa(mode)
		z, e := round.Int(half, mode)
		refused(t, "Int by "+what, dec.D{Neg: z.Neg, N: z.N}, e, api.EARG)
		d, e := round.To(half, 1, mode)
		refused(t, "To by "+what, d, e, api.EARG)
		d, e = round.Step(half, step, mode)
		refused(t, "Step by "+what, d, e, api.EARG)
		d, e = round.Sig(half, 1, mode)
		refused(t, "Sig by "+what, d, e, api.EARG)
		d, e = round.Sig(rat.Q{}, 1, mode)
		refused(t, "Sig of 0 by "+what, d, e, api.EARG)
	}
}

func TestTo(t *testing.T) {
	for _, c := range []struct {
		r           string
		scale, mode int
		want        string
	}{
		{"5/2", 0, api.HalfEven, "2"}, {"5/2", 1, api.HalfEven, "2.5"}, {"5/2", 3, api.Down, "2.500"},
		{"1/8", 2, api.HalfEven, "0.12"}, {"3/8", 2, api.HalfEven, "0.38"}, {"1/8", 2, api.HalfDown, "0.12"}, {"1/8", 2, api.HalfUp, "0.13"},
		{"-1/1000", 2, api.HalfEven, "0.00"}, {"-1/1000", 2, api.Ceil, "0.00"}, {"-1/1000", 2, api.Down, "0.00"},
		{"-1/1000", 2, api.Up, "-0.01"}, {"-1/1000", 2, api.Floor, "-0.01"}, {"1999/1000", 2, api.HalfUp, "2.00"},
		{"0", 0, api.Up, "0"}, {"0", 60, api.Up, "0." + strings.Repeat("0", 60)}, {"-7", 60, api.Floor, "-7." + strings.Repeat("0", 60)},
		{"2/3", 60, api.Down, "0." + strings.Repeat("6", 60)}, {"2/3", 60, api.Up, "0." + strings.Repeat("6", 59) + "7"},
	} {
		d, e := round.To(frac(t, c.r), c.scale, c.mode)
		if e != api.OK || !isValid(d) || dec.Text(d) != c.want {
			t.Errorf("To(%s, %d, %d): %s, error %d, want %s", c.r, c.scale, c.mode, dec.Text(d), e, c.want)
		}
	}
}

func TestToAgainstBig(t *testing.T) {
	for _, r := range append(samples(t), wrongs()...) {
		for _, scale := range []int{0, 1, 2, 3, 9, 10, 30, 59, 60} {
			shifted := new(big.Rat).Mul(bigRat(r), ten(scale))
			for mode := api.Down; mode <= api.HalfEven; mode++ {
				d, e := round.To(r, scale, mode)
				what := "To of " + rat.Text(r) + " by mode " + strconv.Itoa(mode)
				wants(t, what, d, e, wantInt(shifted, mode), scale)
			}
		}
		for _, scale := range []int{math.MinInt, -60, -1, 61, 1 << 32, math.MaxInt} {
			d, e := round.To(r, scale, api.HalfEven)
			refused(t, "To with scale "+strconv.Itoa(scale), d, e, api.EARG)
		}
	}
}

func TestStep(t *testing.T) {
	for _, c := range []struct {
		r, step string
		mode    int
		want    string
	}{
		{"33/100", "0.05", api.HalfEven, "0.35"}, {"-33/100", "0.05", api.HalfEven, "-0.35"}, {"-33/100", "0.05", api.Down, "-0.30"},
		{"7", "5", api.HalfEven, "5"}, {"15/2", "5", api.HalfEven, "10"}, {"15/2", "5", api.HalfDown, "5"}, {"25/2", "5", api.HalfEven, "10"},
		{"25/2", "5", api.HalfUp, "15"}, {"7", "2.50", api.HalfUp, "7.50"}, {"1/100", "5", api.HalfUp, "0"}, {"-1/100", "5", api.HalfUp, "0"},
		{"-1/100", "0.25", api.Ceil, "0.00"}, {"-1/100", "0.25", api.Floor, "-0.25"}, {"0", "0.250", api.Up, "0.000"}, {"10", "3", api.Floor, "9"},
		{"1/3", "7.00", api.Up, "7.00"}, {"100", "100", api.Up, "100"}, {"1001/10", "100", api.Up, "200"}, {"6", "1.5", api.Up, "6.0"},
	} {
		d, e := round.Step(frac(t, c.r), numeral(t, c.step), c.mode)
		if e != api.OK || !isValid(d) || dec.Text(d) != c.want {
			t.Errorf("Step(%s, %s, %d): %s, error %d, want %s", c.r, c.step, c.mode, dec.Text(d), e, c.want)
		}
	}
}

func TestStepAgainstBig(t *testing.T) {
	var steps []dec.D
	for _, text := range []string{"1", "2", "5", "10", "0.1", "0.05", "0.25", "2.50", "12.0", "0.007", "18446744073709551616", "0." + strings.Repeat("0", 59) + "3", strings.Repeat("7", 100) + ".30"} {
		steps = append(steps, numeral(t, text))
	}
	for _, r := range append(samples(t), wrongs()...) {
		for _, step := range steps {
			size := bigNat(step.N)
			value := new(big.Rat).Mul(new(big.Rat).SetInt(size), ten(-step.Scale))
			quotient := new(big.Rat).Quo(bigRat(r), value)
			for mode := api.Down; mode <= api.HalfEven; mode++ {
				d, e := round.Step(r, step, mode)
				what := "Step of " + rat.Text(r) + " to " + dec.Text(step) + " by mode " + strconv.Itoa(mode)
				wants(t, what, d, e, new(big.Int).Mul(wantInt(quotient, mode), size), step.Scale)
			}
		}
	}
}

func TestStepRefuses(t *testing.T) {
	for i, step := range []dec.D{
		{}, {Scale: 2}, {Scale: 60}, {N: words()}, // 0
		{Neg: true, N: nat.Of(5)}, {Neg: true, N: nat.Of(5), Scale: 60}, // less than 0
		{Neg: true}, {N: words(0)}, {N: words(5, 0)}, {N: words(0, 1, 0), Scale: 3}, // not valid
		{N: nat.Of(5), Scale: -1}, {N: nat.Of(5), Scale: 61}, {N: nat.Of(5), Scale: math.MinInt}, {N: nat.Of(5), Scale: math.MaxInt},
	} {
		for mode := api.Down; mode <= api.HalfEven; mode++ {
			for _, r := range []string{"0", "5", "-1/3"} {
				d, e := round.Step(frac(t, r), step, mode)
				refused(t, "Step to step "+strconv.Itoa(i), d, e, api.EARG)
			}
		}
	}
}

func TestSig(t *testing.T) {
	nines := strings.Repeat("9", 60)
	for _, c := range []struct {
		r            string
		digits, mode int
		want         string
	}{
		{"999/10", 2, api.HalfUp, "100"}, {"999/10", 3, api.HalfUp, "99.9"}, {"-999/10", 2, api.HalfUp, "-100"}, {"999/10", 2, api.Down, "99"},
		{"999/100", 2, api.HalfUp, "10"}, {"999/100", 3, api.HalfUp, "9.99"}, {"9999/1000", 3, api.HalfUp, "10.0"}, {"95/10", 1, api.HalfEven, "10"},
		{"995/1000", 2, api.HalfUp, "1.0"}, {"995/1000", 2, api.HalfDown, "0.99"}, {"95/100", 1, api.HalfUp, "1"}, {"99/1000", 1, api.HalfUp, "0.1"},
		{"-95/10000", 1, api.HalfUp, "-0.01"}, {"-95/10000", 1, api.Ceil, "-0.009"}, {"9996/10000", 3, api.Floor, "0.999"}, {"9996/10000", 3, api.Up, "1.00"},
		{"123456", 2, api.HalfEven, "120000"}, {"123456", 3, api.Up, "124000"}, {"-123456", 3, api.Ceil, "-123000"}, {"999999", 2, api.HalfUp, "1000000"},
		{"123456", 6, api.Up, "123456"}, {"123456", 7, api.Up, "123456.0"}, {"25", 1, api.HalfEven, "20"}, {"35", 1, api.HalfEven, "40"}, {"25", 1, api.HalfUp, "30"},
		{"5", 1, api.HalfEven, "5"}, {"5", 4, api.HalfEven, "5.000"}, {"10", 1, api.Up, "10"}, {"10", 2, api.Up, "10"}, {"10", 3, api.Up, "10.0"},
		{"1/3", 3, api.HalfEven, "0.333"}, {"1/300", 3, api.HalfEven, "0.00333"}, {"2/3", 40, api.HalfEven, "0." + strings.Repeat("6", 39) + "7"},
		{"0", 1, api.Up, "0"}, {"0", 2, api.Up, "0.0"}, {"0", 40, api.Floor, "0." + strings.Repeat("0", 39)},
		{"1/1" + strings.Repeat("0", 60), 1, api.Down, "0." + strings.Repeat("0", 59) + "1"}, {"1/1" + strings.Repeat("0", 21), 40, api.Down, "0." + strings.Repeat("0", 20) + "1" + strings.Repeat("0", 39)},
		{nines + "/1" + strings.Repeat("0", 119), 1, api.HalfUp, "0." + strings.Repeat("0", 58) + "1"}, {nines, 40, api.HalfUp, "1" + strings.Repeat("0", 60)},
	} {
		d, e := round.Sig(frac(t, c.r), c.digits, c.mode)
		if e != api.OK || !isValid(d) || dec.Text(d) != c.want {
			t.Errorf("Sig(%s, %d, %d): %s, error %d, want %s", c.r, c.digits, c.mode, dec.Text(d), e, c.want)
		}
	}
}

// exponent looks for the e of the chapter one by one.
func exponent(r *big.Rat) int {
	size, e := new(big.Rat).Abs(r), 0
	for size.Cmp(ten(e)) < 0 {
		e--
	}
	for size.Cmp(ten(e+1)) >= 0 {
		e++
	}
	return e
}

// compareSig holds Sig against what the chapter says of it.
func compareSig(t *testing.T, r rat.Q, digits, mode int) {
	t.Helper()
	what := "Sig of " + rat.Text(r) + " to " + strconv.Itoa(digits) + " digits by mode " + strconv.Itoa(mode)
	d, e := round.Sig(r, digits, mode)
	value := bigRat(r)
	if value.Sign() == 0 {
		wants(t, what, d, e, new(big.Int), digits-1)
		return
	}
	s := digits - 1 - exponent(value)
	rounded := wantInt(new(big.Rat).Mul(value, ten(s)), mode)
	switch {
	case s > 60:
		refused(t, what, d, e, api.ESIZE)
	case s < 0:
		wants(t, what, d, e, rounded.Mul(rounded, ten(-s).Num()), 0)
	case s > 0 && len(new(big.Int).Abs(rounded).String()) > digits:
		wants(t, what, d, e, rounded.Quo(rounded, big.NewInt(10)), s-1)
	default:
		wants(t, what, d, e, rounded, s)
	}
}

func TestSigAgainstBig(t *testing.T) {
	for _, r := range append(samples(t), wrongs()...) {
		for _, digits := range []int{1, 2, 3, 4, 5, 10, 22, 39, 40} {
			for mode := api.Down; mode <= api.HalfEven; mode++ {
				compareSig(t, r, digits, mode)
			}
		}
	}
}

// TestSigAtPowersOfTen takes numbers at and just beside the powers of ten, of
// which the exponent is easily taken wrong, small ones without room among them.
func TestSigAtPowersOfTen(t *testing.T) {
	one := big.NewInt(1)
	for _, fine := range []int{1, 5, 25} {
		for k := -62; k <= 62; k++ {
			power := ten(k)
			scaled := new(big.Int).Exp(big.NewInt(10), big.NewInt(int64(fine)), nil)
			for _, part := range []*big.Int{new(big.Int).Sub(scaled, one), scaled, new(big.Int).Add(scaled, one)} {
				value := new(big.Rat).Mul(power, new(big.Rat).SetFrac(part, scaled))
				for _, digits := range []int{1, 2, 6, 40} {
					r := fraction(k%2 == 0, natOf(value.Num()), natOf(value.Denom()))
					compareSig(t, r, digits, api.HalfEven)
					compareSig(t, r, digits, api.Up)
					compareSig(t, r, digits, api.Floor)
				}
			}
		}
	}
}

func TestSigRefuses(t *testing.T) {
	tiny := frac(t, "1/1"+strings.Repeat("0", 61))
	almost := frac(t, strings.Repeat("9", 60)+"/1"+strings.Repeat("0", 120))
	for mode := api.Down; mode <= api.HalfEven; mode++ {
		for _, digits := range []int{math.MinInt, -1, 0, 41, 61, 1 << 32, math.MaxInt} {
			for _, r := range []rat.Q{{}, rat.Int(5), frac(t, "-1/3"), tiny} {
				d, e := round.Sig(r, digits, mode)
				refused(t, "Sig to "+strconv.Itoa(digits)+" digits", d, e, api.EARG)
			}
		}
		d, e := round.Sig(tiny, 1, mode)
		refused(t, "Sig of too little", d, e, api.ESIZE)
		d, e = round.Sig(rat.Neg(tiny), 40, mode)
		refused(t, "Sig of too little below 0", d, e, api.ESIZE)
		d, e = round.Sig(frac(t, "1/1"+strings.Repeat("0", 60)), 2, mode)
		refused(t, "Sig to one digit too many", d, e, api.ESIZE)
		d, e = round.Sig(frac(t, "1/1"+strings.Repeat("0", 22)), 40, mode)
		refused(t, "Sig to 40 digits", d, e, api.ESIZE)
		// What would be rounded up to a numeral that there is has no room either.
		d, e = round.Sig(almost, 1, mode)
		refused(t, "Sig of almost too little", d, e, api.ESIZE)
	}
}

// TestGreatNumbers has fractions of many digits, which have to end too.
func TestGreatNumbers(t *testing.T) {
	great := new(big.Int).Exp(big.NewInt(10), big.NewInt(5000), nil)
	near := new(big.Int).Sub(great, big.NewInt(1))
	d, e := round.Sig(fraction(true, natOf(near), nat.Of(1)), 3, api.HalfEven)
	wants(t, "Sig of many digits", d, e, new(big.Int).Neg(great), 0)
	d, e = round.To(fraction(false, natOf(great), natOf(near)), 3, api.Up)
	wants(t, "To of many digits", d, e, big.NewInt(1001), 3)
	d, e = round.Sig(fraction(false, natOf(near), natOf(great)), 5, api.Down)
	wants(t, "Sig of many digits below 1", d, e, big.NewInt(99999), 5)
	d, e = round.Sig(fraction(false, nat.Of(1), natOf(great)), 1, api.Up)
	refused(t, "Sig of far too little", d, e, api.ESIZE)
	d, e = round.Step(rat.Int(-1), dec.D{N: natOf(great), Scale: 60}, api.Floor)
	wants(t, "Step to many digits", d, e, new(big.Int).Neg(great), 60)
}

// guarded returns n in memory whose spare capacity is marked, and a function
// that tells whether it is all as it was.
func guarded(n nat.N) (nat.N, func() bool) {
	const mark = 0xdeadbeef
	list := append(slices.Clone(n.L), mark, mark, mark)
	before := slices.Clone(list)
	return words(list[:len(n.L)]...), func() bool { return slices.Equal(list, before) }
}

// scribble writes over a list, its spare capacity too.
func scribble(list []uint32) {
	whole := list[:cap(list)]
	for i := range whole {
		whole[i] = 0x5a5a5a5a
	}
}

// results makes every call by every mode, and returns the lists of what they
// return.
func results(r rat.Q, step dec.D) [][]uint32 {
	var lists [][]uint32
	for mode := api.Down; mode <= api.HalfEven; mode++ {
		z, _ := round.Int(r, mode)
		lists = append(lists, z.N.L)
		for _, scale := range []int{0, 2} {
			d, _ := round.To(r, scale, mode)
			lists = append(lists, d.N.L)
		}
		for _, digits := range []int{1, 3, 40} {
			d, _ := round.Sig(r, digits, mode)
			lists = append(lists, d.N.L)
		}
		d, _ := round.Step(r, step, mode)
		lists = append(lists, d.N.L)
	}
	return lists
}

func TestResultsAreNewMemory(t *testing.T) {
	for _, x := range append(samples(t), wrongs()...) {
		for _, y := range []dec.D{{N: nat.Of(1)}, {N: words(0, 1), Scale: 3}, {N: words(5, 0)}} {
			over, overKept := guarded(x.P.N)
			under, underKept := guarded(x.Q)
			size, sizeKept := guarded(y.N)
			r, step := fraction(x.P.Neg, over, under), dec.D{N: size, Scale: y.Scale}
			first, again := results(r, step), results(r, step)
			for i := range first {
				scribble(first[i])
				for j := i + 1; j < len(first); j++ {
					if !slices.Equal(first[j], again[j]) {
						t.Fatalf("lists %d and %d of %v and %v share memory", i, j, x, y)
					}
				}
			}
			if !overKept() || !underKept() || !sizeKept() {
				t.Fatalf("an argument has changed: %v or %v", x, y)
			}
		}
	}
}

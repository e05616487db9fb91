package dec_test

import (
	"math"
	"math/big"
	"regexp"
	"slices"
	"strconv"
	"strings"
	"testing"

	"cubit/api"
	"cubit/dec"
	"cubit/nat"
	"cubit/num"
	"cubit/rat"
)

// bigNat makes a number of the library, which tells what a result should be.
func bigNat(n nat.N) *big.Int {
	value := new(big.Int)
	for _, word := range slices.Backward(n.L) {
		value.Lsh(value, 32)
		value.Or(value, big.NewInt(int64(word)))
	}
	return value
}

func natOf(value *big.Int) nat.N {
	n, _ := nat.Parse(value.String())
	return n
}

func bigPower(base, k int64) *big.Int {
	return new(big.Int).Exp(big.NewInt(base), big.NewInt(k), nil)
}

func words(list ...uint32) nat.N { return nat.N{L: list} }

func fraction(negative bool, over, under nat.N) rat.Q {
	return rat.Q{P: num.Z{Neg: negative, N: over}, Q: under}
}

// bigRat makes a fraction of the library of a valid numeral.
func bigRat(d dec.D) *big.Rat {
	value := new(big.Rat).SetFrac(bigNat(d.N), bigPower(10, int64(d.Scale)))
	if d.Neg {
		value.Neg(value)
	}
	return value
}

// isValid looks at a numeral itself, so that the tests do not lean on Good.
func isValid(d dec.D) bool {
	size := len(d.N.L)
	return (size == 0 || d.N.L[size-1] != 0) && d.Scale >= 0 && d.Scale <= 60 && !(d.Neg && size == 0)
}

// wants fails the test if d is not valid or not the numeral that is wanted.
func wants(t *testing.T, what string, d dec.D, negative bool, n *big.Int, scale int) {
	t.Helper()
	if !isValid(d) || d.Neg != negative || bigNat(d.N).Cmp(n) != 0 || d.Scale != scale {
		t.Errorf("%s: %v, want %v %s with scale %d", what, d, negative, n, scale)
	}
}

// isNothing reports whether d is the zero value.
func isNothing(d dec.D) bool { return !d.Neg && len(d.N.L) == 0 && d.Scale == 0 }

// numbers returns valid numbers, many of which end in zeros.
func numbers() []nat.N {
	list := []nat.N{
		{}, nat.Of(1), nat.Of(5), nat.Of(9), nat.Of(10), nat.Of(50), nat.Of(99), nat.Of(100), nat.Of(101),
		nat.Of(1200), nat.Of(math.MaxUint32), words(0, 1), words(0, 0, 0, 1<<31), words(math.MaxUint32, math.MaxUint32),
	}
	for _, k := range []int64{9, 10, 18, 19, 20, 59, 60, 61, 62, 100} {
		power := bigPower(10, k)
		list = append(list, natOf(power), natOf(new(big.Int).Sub(power, big.NewInt(1))),
			natOf(new(big.Int).Mul(power, big.NewInt(125))))
	}
	return list
}

// samples returns valid numerals of both signs and of every kind of scale.
func samples() []dec.D {
	var list []dec.D
	for _, n := range numbers() {
		for _, scale := range []int{0, 1, 2, 3, 8, 9, 10, 30, 58, 59, 60} {
			list = append(list, dec.D{N: n, Scale: scale})
			if len(n.L) > 0 {
				list = append(list, dec.D{Neg: true, N: n, Scale: scale})
			}
		}
	}
	return list
}

// wrongs returns numerals that are not valid, each for one reason.
func wrongs() []dec.D {
	return []dec.D{
		{Neg: true},
		{Neg: true, Scale: 2},
		{Neg: true, N: words()},
		{N: words(0)},
		{N: words(0, 0), Scale: 2},
		{N: words(5, 0)},
		{Neg: true, N: words(5, 0), Scale: 1},
		{N: words(0, 1, 0), Scale: 60},
		{N: nat.Of(5), Scale: -1},
		{N: nat.Of(5), Scale: 61},
		{Neg: true, N: nat.Of(50), Scale: 61},
		{Scale: -1},
		{Scale: 61},
		{N: nat.Of(5), Scale: math.MinInt},
		{N: nat.Of(5), Scale: math.MaxInt},
	}
}

func TestGood(t *testing.T) {
	for _, d := range append(samples(), dec.D{}, dec.D{N: words()}, dec.D{Scale: 60}) {
		if !dec.Good(d) {
			t.Errorf("Good(%v) is false", d)
		}
	}
	for _, d := range wrongs() {
		if dec.Good(d) {
			t.Errorf("Good(%v) is true", d)
		}
	}
}

func TestWhatIsNotValidCountsAsZero(t *testing.T) {
	for _, d := range wrongs() {
		if dec.Text(d) != "0" || dec.Part(d) != "" {
			t.Errorf("Text and Part of %v: %s, %s", d, dec.Text(d), dec.Part(d))
		}
		if whole := dec.Whole(d); len(whole.L) != 0 {
			t.Errorf("Whole of %v: %v", d, whole)
		}
		if short := dec.Short(d); !isNothing(short) {
			t.Errorf("Short of %v: %v", d, short)
		}
		if value := dec.Rat(d); !rat.Good(value) || rat.Text(value) != "0" {
			t.Errorf("Rat of %v: %v", d, value)
		}
	}
}

// parsesAs fails the test if s is not parsed as its digits say.
func parsesAs(t *testing.T, s string) {
	t.Helper()
	digits, negative := strings.CutPrefix(s, "-")
	whole, part, _ := strings.Cut(digits, ".")
	n, _ := new(big.Int).SetString(whole+part, 10)
	d, e := dec.Parse(s)
	if e != api.OK {
		t.Errorf("Parse(%s): error %d", s, e)
	}
	wants(t, "Parse of "+s, d, negative && n.Sign() != 0, n, len(part))
}

func TestParse(t *testing.T) {
	wholes := []string{"0", "00", "1", "9", "01", "10", "0010", "4294967296", "99999999999999999999", strings.Repeat("9", 190)}
	parts := []string{"0", "00", "5", "50", "05", "050", "123456789", strings.Repeat("0", 60), strings.Repeat("9", 60), strings.Repeat("0", 59) + "1"}
	for _, whole := range wholes {
		for _, before := range []string{"", "-"} {
			parsesAs(t, before+whole)
			for _, part := range parts {
				parsesAs(t, before+whole+"."+part)
			}
		}
	}
}

func TestParseWritesAsText(t *testing.T) {
	for s, want := range map[string]string{
		"01.50": "1.50", "0": "0", "-0": "0", "-000": "0", "0.0": "0.0", "-0.0": "0.0", "-00.00": "0.00", "-0.10": "-0.10",
		"-0.01": "-0.01", "007": "7", "-007.0": "-7.0", "100": "100", "100.00": "100.00", "00.5": "0.5", "1234567890.0987654321": "1234567890.0987654321",
	} {
		if d, e := dec.Parse(s); e != api.OK || dec.Text(d) != want {
			t.Errorf("Text of Parse(%s): %s, error %d, want %s", s, dec.Text(d), e, want)
		}
	}
}

// refused fails the test if s is not refused with the error that is wanted.
func refused(t *testing.T, s string, want api.Errno) {
	t.Helper()
	if d, e := dec.Parse(s); e != want || !isNothing(d) {
		t.Errorf("Parse(%s): %v, error %d, want error %d", strconv.Quote(s), d, e, want)
	}
}

func TestParseRefuses(t *testing.T) {
	for _, s := range []string{
		"", "-", ".", "-.", "..", ".5", "-.5", "5.", "-5.", "0.", "--1", "-+1", "+1", "1-", "1.-2", "1.5-", "-1.-5", "1.2.3",
		"1..2", ".1.2", "1.2.", "1,5", "1e5", "1.5e1", "0x1", "1_0", " 1", "1 ", "1 .5", "1. 5", "- 1", "1/2", "inf", "NaN",
		"1\n", "1.5\x00", "\u0663", "1.\u0663", "\u22121", "1\u22c55", "\xff", "1\xff",
	} {
		refused(t, s, api.EFORM)
	}
	form := regexp.MustCompile(`\A-?[0-9]+(\.[0-9]{1,60})?\z`)
	for b := range 256 {
		other := string([]byte{byte(b)})
		for _, s := range []string{other, other + "1", "1" + other, "1" + other + "5", "1.5" + other, "1." + other + "5", "-" + other + "1.5", "1" + other + ".5"} {
			if form.MatchString(s) {
				parsesAs(t, s)
			} else {
				refused(t, s, api.EFORM)
			}
		}
	}
}

func TestParseAtTheLimits(t *testing.T) {
	most := strings.Repeat("7", api.MaxScale)
	parsesAs(t, "1."+most)
	parsesAs(t, "-0."+most)
	refused(t, "1."+most+"7", api.EFORM)
	refused(t, "0.0"+strings.Repeat("0", api.MaxScale), api.EFORM)
	for _, before := range []string{"", "-"} {
		parsesAs(t, before+strings.Repeat("9", api.MaxText-len(before)))
		parsesAs(t, before+strings.Repeat("0", api.MaxText-len(before)))
		parsesAs(t, before+strings.Repeat("9", api.MaxText-len(before)-61)+"."+most)
		refused(t, before+strings.Repeat("9", api.MaxText-len(before)+1), api.ESIZE)
		refused(t, before+strings.Repeat("0", api.MaxText-len(before)+1), api.ESIZE)
		refused(t, before+strings.Repeat("9", api.MaxText-len(before)-60)+"."+most, api.ESIZE)
	}
	// The size is looked at first.
	refused(t, strings.Repeat("x", api.MaxText), api.EFORM)
	refused(t, strings.Repeat("x", api.MaxText+1), api.ESIZE)
	refused(t, "0."+strings.Repeat("1", api.MaxText-2), api.EFORM)
	refused(t, "0."+strings.Repeat("1", api.MaxText-1), api.ESIZE)
	// Bytes count, not letters.
	refused(t, strings.Repeat("\u0663", api.MaxText/2), api.EFORM)
	refused(t, strings.Repeat("\u0663", api.MaxText/2+1), api.ESIZE)
}

func TestSamplesAgainstBig(t *testing.T) {
	for _, d := range samples() {
		text := bigRat(d).FloatString(d.Scale)
		if dec.Text(d) != text {
			t.Errorf("Text(%v): %s, want %s", d, dec.Text(d), text)
		}
		whole, part, _ := strings.Cut(strings.TrimPrefix(text, "-"), ".")
		if got := dec.Whole(d); !nat.Good(got) || bigNat(got).String() != whole {
			t.Errorf("Whole(%v): %v, want %s", d, got, whole)
		}
		if dec.Part(d) != part {
			t.Errorf("Part(%v): %s, want %s", d, dec.Part(d), part)
		}
		if value := dec.Rat(d); !rat.Good(value) || rat.Text(value) != bigRat(d).RatString() {
			t.Errorf("Rat(%v): %s, want %s", d, rat.Text(value), bigRat(d).RatString())
		}
		compareShort(t, d)
		if len(text) <= api.MaxText {
			again, e := dec.Parse(text)
			wants(t, "Parse of "+text, again, d.Neg, bigNat(d.N), d.Scale)
			if e != api.OK {
				t.Errorf("Parse(%s): error %d", text, e)
			}
		}
	}
}

// leastScale takes a zero off the end as long as there is one after the point.
func leastScale(d dec.D) (*big.Int, int) {
	n, scale, ten := bigNat(d.N), d.Scale, big.NewInt(10)
	for scale > 0 && new(big.Int).Rem(n, ten).Sign() == 0 {
		n.Quo(n, ten)
		scale--
	}
	return n, scale
}

func compareShort(t *testing.T, d dec.D) {
	t.Helper()
	n, scale := leastScale(d)
	short := dec.Short(d)
	wants(t, "Short of "+dec.Text(d), short, d.Neg, n, scale)
	wants(t, "Short of Short of "+dec.Text(d), dec.Short(short), d.Neg, n, scale)
}

func TestShort(t *testing.T) {
	for s, want := range map[string]string{
		"1.50": "1.5", "1.00": "1", "100": "100", "-100.0": "-100", "0.000": "0", "0.10": "0.1", "-0.0500": "-0.05", "10.010": "10.01", "7": "7", "1.05": "1.05",
		"0." + strings.Repeat("0", 60): "0", "3." + strings.Repeat("0", 60): "3",
	} {
		d, _ := dec.Parse(s)
		if got := dec.Text(dec.Short(d)); got != want {
			t.Errorf("Short of %s: %s, want %s", s, got, want)
		}
	}
}

// TestOfUndoesRat makes numerals of their values, with every most around the
// least scale that there is.
func TestOfUndoesRat(t *testing.T) {
	for _, d := range samples() {
		n, scale := leastScale(d)
		for _, most := range []int{math.MinInt, -1, 0, scale - 1, scale, scale + 1, 59, 60, 61, math.MaxInt} {
			got, ok := dec.Of(dec.Rat(d), most)
			what := "Of " + dec.Text(d) + " with most " + strconv.Itoa(most)
			if scale > max(most, 0) {
				noNumeral(t, what, got, ok)
				continue
			}
			wants(t, what, got, d.Neg, n, scale)
			if !ok {
				t.Errorf("%s: false", what)
			}
		}
	}
}

func noNumeral(t *testing.T, what string, d dec.D, ok bool) {
	t.Helper()
	if ok || !isNothing(d) {
		t.Errorf("%s: %v and %v, want nothing and false", what, d, ok)
	}
}

// TestOfByDivisor takes fractions over powers of 2 and of 5, of which the
// greater power tells the scale, and over other primes, which have none.
func TestOfByDivisor(t *testing.T) {
	for _, twos := range []int64{0, 1, 2, 59, 60, 61, 200} {
		for _, fives := range []int64{0, 1, 2, 59, 60, 61, 200} {
			under := new(big.Int).Mul(bigPower(2, twos), bigPower(5, fives))
			for _, negative := range []bool{false, true} {
				r := fraction(negative, nat.Of(21), natOf(under))
				got, ok := dec.Of(r, 60)
				scale := max(twos, fives)
				if scale > 60 {
					noNumeral(t, "Of "+rat.Text(r), got, ok)
					continue
				}
				n := new(big.Int).Mul(big.NewInt(21), bigPower(10, scale))
				wants(t, "Of "+rat.Text(r), got, negative, n.Quo(n, under), int(scale))
				if !ok {
					t.Errorf("Of %s: false", rat.Text(r))
				}
				got, ok = dec.Of(r, int(scale)-1)
				if scale > 0 {
					noNumeral(t, "Of "+rat.Text(r)+" with less", got, ok)
				}
			}
			for _, other := range []int64{3, 7, 11, 4294967291} {
				r := fraction(false, nat.Of(1), natOf(new(big.Int).Mul(under, big.NewInt(other))))
				got, ok := dec.Of(r, 60)
				noNumeral(t, "Of "+rat.Text(r), got, ok)
			}
		}
	}
	for _, k := range []int64{1000, 20000} {
		got, ok := dec.Of(fraction(true, nat.Of(3), natOf(bigPower(10, k))), math.MaxInt)
		noNumeral(t, "Of a long fraction", got, ok)
		got, ok = dec.Of(fraction(true, natOf(bigPower(10, k)), nat.Of(8)), 0)
		wants(t, "Of a great fraction", got, true, new(big.Int).Quo(bigPower(10, k), big.NewInt(8)), 0)
		if !ok {
			t.Errorf("Of a great fraction: false")
		}
	}
}

// TestOfWhatIsNotValid takes fractions that count as others.
func TestOfWhatIsNotValid(t *testing.T) {
	for _, c := range []struct {
		r    rat.Q
		most int
		want string
	}{
		{rat.Q{}, 0, "0"},
		{fraction(false, nat.Of(5), words()), 0, "0"},
		{fraction(true, nat.Of(5), words(0, 0)), 60, "0"},
		{fraction(true, words(), nat.Of(1)), 60, "0"},
		{fraction(true, words(0, 0), nat.Of(7)), 60, "0"},
		{fraction(false, nat.Of(6), nat.Of(4)), 1, "1.5"},
		{fraction(true, nat.Of(21), nat.Of(14)), 60, "-1.5"},
		{fraction(true, nat.Of(9), nat.Of(3)), 0, "-3"},
		{fraction(false, words(3, 0), words(2, 0)), 60, "1.5"},
		{fraction(false, nat.Of(6), nat.Of(4)), 0, ""},
		{fraction(false, nat.Of(2), nat.Of(6)), 60, ""},
	} {
		got, ok := dec.Of(c.r, c.most)
		if c.want == "" {
			noNumeral(t, "Of a fraction that is not valid", got, ok)
			continue
		}
		if !ok || !isValid(got) || dec.Text(got) != c.want {
			t.Errorf("Of %v: %v and %v, want %s", c.r, got, ok, c.want)
		}
	}
}

// guarded returns n in memory whose spare capacity is marked, and a function
// that tells whether it is all as it was.
func guarded(n nat.N) (nat.N, func() bool) {
	const mark = 0xdeadbeef
	list := append(slices.Clone(n.L), mark, mark, mark)
	before := slices.Clone(list)
	return words(list[:len(n.L)]...), func() bool { return slices.Equal(list, before) }
}

// scribble writes over a list, its spare capacity too.
func scribble(list []uint32) {
	whole := list[:cap(list)]
	for i := range whole {
		whole[i] = 0x5a5a5a5a
	}
}

// results makes every call that is given a numeral or a fraction, and returns
// the lists of what they return.
func results(d dec.D, r rat.Q) [][]uint32 {
	dec.Good(d)
	dec.Text(d)
	dec.Part(d)
	value := dec.Rat(d)
	of, _ := dec.Of(r, 60)
	parsed, _ := dec.Parse("12.50")
	return [][]uint32{value.P.N.L, value.Q.L, of.N.L, dec.Whole(d).L, dec.Short(d).N.L, parsed.N.L}
}

func TestResultsAreNewMemory(t *testing.T) {
	unders := []nat.N{nat.Of(1), nat.Of(8), words(8, 0), nat.Of(3), {}}
	for _, x := range append(samples(), wrongs()...) {
		for _, y := range unders {
			n, nKept := guarded(x.N)
			under, underKept := guarded(y)
			d := dec.D{Neg: x.Neg, N: n, Scale: x.Scale}
			r := fraction(x.Neg, n, under)
			first, again := results(d, r), results(d, r)
			for i := range first {
				scribble(first[i])
				for j := i + 1; j < len(first); j++ {
					if !slices.Equal(first[j], again[j]) {
						t.Fatalf("lists %d and %d of %v share memory", i, j, x)
					}
				}
			}
			if !nKept() || !underKept() {
				t.Fatalf("an argument has changed: %v or %v", x, y)
			}
		}
	}
}

package rat_test

import (
	"math"
	"math/big"
	"slices"
	"strconv"
	"strings"
	"testing"

	"cubit/nat"
	"cubit/num"
	"cubit/rat"
)

// bigNat makes a number of the library, which tells what a result should be.
func bigNat(n nat.N) *big.Int {
	value := new(big.Int)
	for _, word := range slices.Backward(n.L) {
		value.Lsh(value, 32)
		value.Or(value, big.NewInt(int64(word)))
	}
	return value
}

func bigNum(z num.Z) *big.Int {
	value := bigNat(z.N)
	if z.Neg {
		value.Neg(value)
	}
	return value
}

// bigRat makes a fraction of the library of what a counts as.
func bigRat(a rat.Q) *big.Rat {
	under := bigNat(a.Q)
	if under.Sign() == 0 {
		return new(big.Rat)
	}
	return new(big.Rat).SetFrac(bigNum(a.P), under)
}

func isValid(n nat.N) bool {
	return len(n.L) == 0 || n.L[len(n.L)-1] != 0
}

// wants fails the test if a is not valid or not the fraction that is wanted.
// The library's fractions are in lowest terms, so that equal terms are valid
// ones. That is looked at here, so that the test does not lean on Good.
func wants(t *testing.T, what string, a rat.Q, want *big.Rat) {
	t.Helper()
	valid := isValid(a.P.N) && isValid(a.Q) && !(a.P.Neg && len(a.P.N.L) == 0)
	if !valid || bigNum(a.P).Cmp(want.Num()) != 0 || bigNat(a.Q).Cmp(want.Denom()) != 0 {
		t.Errorf("%s: %v, want %s", what, a, want)
	}
}

// nothing fails the test if a result beside false is not 0.
func nothing(t *testing.T, what string, a rat.Q, ok bool) {
	t.Helper()
	if ok || a.P.Neg || len(a.P.N.L) != 0 {
		t.Errorf("%s: %v and %v, want nothing and false", what, a, ok)
	}
}

// right fails the test if a call that has a result says that there is none.
func right(t *testing.T, what string, ok bool) {
	t.Helper()
	if !ok {
		t.Errorf("%s: false", what)
	}
}

func words(list ...uint32) nat.N { return nat.N{L: list} }

func ratio(p, q int64) *big.Rat { return big.NewRat(p, q) }

// fraction makes one as it is, valid or not.
func fraction(negative bool, over, under nat.N) rat.Q {
	return rat.Q{P: num.Z{Neg: negative, N: over}, Q: under}
}

// numbers returns numbers to make fractions of, some of them not valid.
func numbers() []nat.N {
	return []nat.N{
		{}, words(0, 0), words(1), words(1, 0), words(2), words(3, 0, 0), words(4), words(6),
		words(10), words(math.MaxUint32), words(0, 1), words(0, 1, 0), words(6, 0, 9),
		words(math.MaxUint32, math.MaxUint32), words(0, 0, 0, 1<<31),
	}
}

// samples returns fractions of both signs, many of them not in lowest terms or
// not valid in another way.
func samples() []rat.Q {
	var list []rat.Q
	for _, over := range numbers() {
		for _, under := range numbers() {
			list = append(list, fraction(false, over, under), fraction(true, over, under))
		}
	}
	return list
}

func TestGood(t *testing.T) {
	for _, a := range samples() {
		value := bigRat(a)
		want := len(a.Q.L) > 0 && isValid(a.P.N) && isValid(a.Q) &&
			bigNum(a.P).Cmp(value.Num()) == 0 && bigNat(a.Q).Cmp(value.Denom()) == 0 &&
			!(a.P.Neg && len(a.P.N.L) == 0)
		if rat.Good(a) != want {
			t.Errorf("Good(%v): %v", a, !want)
		}
	}
	for what, a := range map[string]rat.Q{
		"nothing":          {},
		"0/0":              fraction(false, words(), words()),
		"1/0":              fraction(false, words(1), words()),
		"-1/0":             fraction(true, words(1), words()),
		"1/0 with a word":  fraction(false, words(1), words(0)),
		"0/5":              fraction(false, words(), words(5)),
		"-0/1":             fraction(true, words(), words(1)),
		"6/4":              fraction(false, words(6), words(4)),
		"-5/5":             fraction(true, words(5), words(5)),
		"3/2 with a word":  fraction(false, words(3, 0), words(2)),
		"3/2 with another": fraction(false, words(3), words(2, 0)),
	} {
		if rat.Good(a) {
			t.Errorf("Good of %s is true", what)
		}
	}
	for what, a := range map[string]rat.Q{
		"0":       fraction(false, words(), words(1)),
		"1":       fraction(false, words(1), words(1)),
		"-3/2":    fraction(true, words(3), words(2)),
		"1/2^32":  fraction(false, words(1), words(0, 1)),
		"-2^32/3": fraction(true, words(0, 1), words(3)),
	} {
		if !rat.Good(a) {
			t.Errorf("Good of %s is false", what)
		}
	}
}

func TestOf(t *testing.T) {
	for _, a := range samples() {
		got, ok := rat.Of(a.P, a.Q)
		what := "Of " + bigNum(a.P).String() + " and " + bigNat(a.Q).String()
		if bigNat(a.Q).Sign() == 0 {
			nothing(t, what, got, ok)
			continue
		}
		wants(t, what, got, bigRat(a))
		right(t, what, ok)
	}
}

func TestInt(t *testing.T) {
	for _, n := range []int64{0, 1, -1, 7, -7, math.MaxUint32, 1 << 32, -1 << 32, math.MaxInt64, math.MinInt64} {
		wants(t, "Int", rat.Int(n), ratio(n, 1))
	}
}

func TestSamplesAgainstBig(t *testing.T) {
	for _, a := range samples() {
		x := bigRat(a)
		if rat.Sign(a) != x.Sign() {
			t.Errorf("Sign(%v): %d", a, rat.Sign(a))
		}
		if rat.Text(a) != x.RatString() {
			t.Errorf("Text(%v): %s, want %s", a, rat.Text(a), x.RatString())
		}
		wants(t, "Neg of "+x.String(), rat.Neg(a), new(big.Rat).Neg(x))
		turned, ok := rat.Inv(a)
		if x.Sign() == 0 {
			nothing(t, "Inv of 0", turned, ok)
		} else {
			wants(t, "Inv of "+x.String(), turned, new(big.Rat).Inv(x))
			right(t, "Inv of "+x.String(), ok)
		}
		compareFloor(t, a)
		for _, b := range samples() {
			comparePair(t, a, b)
		}
	}
}

func comparePair(t *testing.T, a, b rat.Q) {
	t.Helper()
	x, y := bigRat(a), bigRat(b)
	if got := rat.Cmp(a, b); got != x.Cmp(y) {
		t.Errorf("Cmp of %s and %s: %d", x, y, got)
	}
	wants(t, "Add", rat.Add(a, b), new(big.Rat).Add(x, y))
	wants(t, "Mul", rat.Mul(a, b), new(big.Rat).Mul(x, y))
}

func compareFloor(t *testing.T, a rat.Q) {
	t.Helper()
	value := bigRat(a)
	// The library's Div goes down, because what is under the line is positive.
	want := new(big.Int).Div(value.Num(), value.Denom())
	floor := rat.Floor(a)
	valid := isValid(floor.N) && !(floor.Neg && len(floor.N.L) == 0)
	if !valid || bigNum(floor).Cmp(want) != 0 {
		t.Errorf("Floor of %s: %v, want %s", value, floor, want)
	}
}

func TestFloor(t *testing.T) {
	for _, c := range []struct {
		p    int64
		q    uint64
		want int64
	}{
		{7, 2, 3}, {-7, 2, -4}, {4, 1, 4}, {-4, 1, -4}, {-8, 2, -4}, {0, 9, 0}, {1, 100, 0},
		{-1, 100, -1}, {-99, 100, -1}, {-100, 100, -1}, {-101, 100, -2}, {5, 0, 0}, {-5, 0, 0},
	} {
		floor := rat.Floor(rat.Q{P: num.Of(c.p), Q: nat.Of(c.q)})
		if bigNum(floor).Cmp(big.NewInt(c.want)) != 0 {
			t.Errorf("Floor of %d/%d: %v, want %d", c.p, c.q, floor, c.want)
		}
	}
}

// power tells what a power should be, by one product after the other.
func power(base *big.Rat, k int) *big.Rat {
	result := ratio(1, 1)
	for range k {
		result.Mul(result, base)
	}
	return result
}

func TestPow(t *testing.T) {
	for _, a := range samples() {
		x := bigRat(a)
		for k := range 8 {
			got, ok := rat.Pow(a, k)
			wants(t, "Pow of "+x.String(), got, power(x, k))
			right(t, "Pow of "+x.String(), ok)
		}
		for k := 1; k < 8; k++ {
			got, ok := rat.Pow(a, -k)
			if x.Sign() == 0 {
				nothing(t, "Pow below 0 of 0", got, ok)
				continue
			}
			wants(t, "Pow below 0 of "+x.String(), got, power(new(big.Rat).Inv(x), k))
			right(t, "Pow below 0 of "+x.String(), ok)
		}
	}
}

// TestPowAtTheEnds takes powers by the greatest and the least numbers, of which
// the least one has no opposite.
func TestPowAtTheEnds(t *testing.T) {
	zeros := []rat.Q{{}, rat.Int(0), fraction(true, words(), words(5)), fraction(false, words(5), words())}
	for _, zero := range zeros {
		for _, k := range []int{math.MinInt, math.MinInt + 1, -1} {
			got, ok := rat.Pow(zero, k)
			nothing(t, "Pow below 0 of 0", got, ok)
		}
		got, ok := rat.Pow(zero, 0)
		wants(t, "Pow(0, 0)", got, ratio(1, 1))
		right(t, "Pow(0, 0)", ok)
		got, ok = rat.Pow(zero, math.MaxInt)
		wants(t, "Pow(0, MaxInt)", got, ratio(0, 1))
		right(t, "Pow(0, MaxInt)", ok)
	}
	for _, k := range []int{math.MinInt, math.MinInt + 1, math.MaxInt - 1, math.MaxInt} {
		got, ok := rat.Pow(fraction(false, words(3), words(3)), k)
		wants(t, "Pow of 1", got, ratio(1, 1))
		right(t, "Pow of 1", ok)
		sign := int64(1)
		if k%2 != 0 {
			sign = -1
		}
		got, ok = rat.Pow(rat.Int(-1), k)
		wants(t, "Pow of -1", got, ratio(sign, 1))
		right(t, "Pow of -1", ok)
	}
	long := fraction(true, words(20), words(6))
	for k, want := range map[int]*big.Rat{
		201:  power(ratio(-10, 3), 201),
		-201: power(ratio(-3, 10), 201),
		-200: power(ratio(3, 10), 200),
	} {
		got, ok := rat.Pow(long, k)
		wants(t, "Pow of -10/3", got, want)
		right(t, "Pow of -10/3", ok)
	}
}

func TestParse(t *testing.T) {
	digits := []string{"0", "1", "6", "7", "4294967296", "9223372036854775808", strings.Repeat("1234567890", 10)}
	for _, over := range digits {
		for _, before := range []string{"", "-", "0", "-0", "000000000000", "-000000000000"} {
			parsesAs(t, before+over, before+over)
			for _, under := range digits {
				if under != "0" {
					parsesAs(t, before+over+"/"+under, before+over+"/"+under)
					parsesAs(t, before+over+"/000"+under, before+over+"/"+under)
				}
			}
		}
	}
	for text, want := range map[string]string{"6/4": "3/2", "-6/4": "-3/2", "0/5": "0", "-0/5": "0", "-0": "0", "007/014": "1/2", "5/1": "5", "10/5": "2", "3/2": "3/2"} {
		if a, ok := rat.Parse(text); !ok || !rat.Good(a) || rat.Text(a) != want {
			t.Errorf("Text of Parse(%s): %s, %v", text, rat.Text(a), ok)
		}
	}
}

// parsesAs fails the test if text is not parsed as the fraction that the
// library reads in want.
func parsesAs(t *testing.T, text, want string) {
	t.Helper()
	over, under, divided := strings.Cut(want, "/")
	if !divided {
		under = "1"
	}
	p, _ := new(big.Int).SetString(over, 10)
	q, _ := new(big.Int).SetString(under, 10)
	value := new(big.Rat).SetFrac(p, q)
	a, ok := rat.Parse(text)
	wants(t, "Parse of "+text, a, value)
	right(t, "Parse of "+text, ok)
	if again, ok := rat.Parse(rat.Text(a)); !ok || rat.Cmp(a, again) != 0 {
		t.Errorf("Parse of Text of %s: %v, %v", text, again, ok)
	}
}

func TestParseRefuses(t *testing.T) {
	list := []string{
		"", "/", "//", "1/", "-1/", "/2", "-/2", "-", "1//2", "1/2/3", "1/2/", "/1/2", "1/0", "0/0", "-1/0", "1/00",
		"1/000000000000", "1/-2", "-1/-2", "1/+2", "+1/2", "+1", "--1", "--1/2", "1 /2", "1/ 2", " 1/2", "1/2 ",
		"1.5", "1/2.0", "1.0/2", "1e3", "0x1/2", "1_0", "1/1_0", "1\u20442", "1\u22152", "\u00bd", "1/\u0663", "\u0663/2", "1\\2", "1:2",
	}
	for b := range 256 {
		if b >= '0' && b <= '9' {
			continue
		}
		other := string([]byte{byte(b)})
		list = append(list, other, "1"+other, "1/2"+other, "1/"+other+"2", "1/2"+other+"3")
		if b != '-' {
			list = append(list, other+"1/2")
		}
		if b != '/' {
			list = append(list, "1"+other+"2", "1"+other+"/2")
		}
	}
	for _, text := range list {
		a, ok := rat.Parse(text)
		nothing(t, "Parse of "+strconv.Quote(text), a, ok)
	}
}

// guarded returns a in memory whose spare capacity is marked, and a function
// that tells whether it is all as it was.
func guarded(a rat.Q) (rat.Q, func() bool) {
	const mark = 0xdeadbeef
	over := append(slices.Clone(a.P.N.L), mark, mark, mark)
	under := append(slices.Clone(a.Q.L), mark, mark, mark)
	overBefore, underBefore := slices.Clone(over), slices.Clone(under)
	kept := func() bool { return slices.Equal(over, overBefore) && slices.Equal(under, underBefore) }
	return fraction(a.P.Neg, words(over[:len(a.P.N.L)]...), words(under[:len(a.Q.L)]...)), kept
}

// scribble writes over a list, its spare capacity too.
func scribble(list []uint32) {
	whole := list[:cap(list)]
	for i := range whole {
		whole[i] = 0x5a5a5a5a
	}
}

// results makes every call whose result has lists, and returns these.
func results(a, b rat.Q) [][]uint32 {
	rat.Good(a)
	rat.Sign(a)
	rat.Cmp(a, b)
	rat.Text(a)
	of, _ := rat.Of(a.P, b.Q)
	inv, _ := rat.Inv(a)
	none, _ := rat.Pow(a, 0)
	same, _ := rat.Pow(a, 1)
	turned, _ := rat.Pow(a, -1)
	cube, _ := rat.Pow(a, 3)
	lists := [][]uint32{rat.Floor(a).N.L}
	for _, q := range []rat.Q{of, rat.Neg(a), rat.Add(a, b), rat.Mul(a, b), inv, none, same, turned, cube, rat.Int(5)} {
		lists = append(lists, q.P.N.L, q.Q.L)
	}
	return lists
}

func TestResultsAreNewMemory(t *testing.T) {
	list := append(samples(), rat.Int(0), rat.Int(1), rat.Int(-7))
	others := []rat.Q{{}, rat.Int(1), fraction(true, words(6), words(4)), fraction(false, words(0, 1), words(3, 0))}
	for _, x := range list {
		for _, y := range others {
			a, aKept := guarded(x)
			b, bKept := guarded(y)
			first, again := results(a, b), results(a, b)
			for i := range first {
				scribble(first[i])
				for j := i + 1; j < len(first); j++ {
					if !slices.Equal(first[j], again[j]) {
						t.Fatalf("lists %d and %d of %v and %v share memory", i, j, x, y)
					}
				}
			}
			if !aKept() || !bKept() {
				t.Fatalf("an argument has changed: %v or %v", x, y)
			}
		}
	}
}

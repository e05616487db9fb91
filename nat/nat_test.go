package nat_test

import (
	"math"
	"math/big"
	"slices"
	"strings"
	"testing"

	"cubit/nat"
)

// toBig makes a number of the library, which tells what a result should be.
func toBig(n nat.N) *big.Int {
	value := new(big.Int)
	for _, word := range slices.Backward(n.L) {
		value.Lsh(value, 32)
		value.Or(value, big.NewInt(int64(word)))
	}
	return value
}

func words(list ...uint32) nat.N { return nat.N{L: list} }

// wants fails the test if n is not valid or not the number that is wanted.
func wants(t *testing.T, what string, n nat.N, want *big.Int) {
	t.Helper()
	if !nat.Good(n) || toBig(n).Cmp(want) != 0 {
		t.Errorf("%s: words %v, want %s", what, n.L, want)
	}
}

// nothing fails the test if a result beside false is not a zero value.
func nothing(t *testing.T, what string, n nat.N, ok bool) {
	t.Helper()
	if ok || len(n.L) != 0 {
		t.Errorf("%s: %v and %v, want nothing and false", what, n.L, ok)
	}
}

// right fails the test if a call that has a result says that there is none.
func right(t *testing.T, what string, ok bool) {
	t.Helper()
	if !ok {
		t.Errorf("%s: false", what)
	}
}

// samples returns numbers of zero to six words, most of them made of words at
// the ends of their range, some of them not valid.
func samples() []nat.N {
	list := []nat.N{
		{}, words(0), words(0, 0, 0), words(1), words(2), words(10), words(7, 0, 0),
		words(math.MaxUint32), words(math.MaxUint32, 0), words(0, 1), words(1, 1),
		words(math.MaxUint32, math.MaxUint32), words(0, 0, 1), words(0, 0, 1, 0, 0),
		words(0, 0, 0, 1), words(0, 0, 0, 0, 1<<31), words(1, 0, 0, 1),
		words(0, 0, 0x80000000, 0x7fffffff), words(1, 0, 0x80000000),
		words(0, 0xfffffffe, 0x80000000), words(math.MaxUint32, 0, 0x80000000),
		words(3, 0, 0x80000000), words(1, 0, 0x20000000),
		words(math.MaxUint32, math.MaxUint32, math.MaxUint32, math.MaxUint32),
		words(1000000000), words(999999999), words(2808348672, 232830643),
	}
	state := uint64(1)
	for i := range 30 {
		n := nat.N{}
		for range i%6 + 1 {
			state = state*6364136223846793005 + 1442695040888963407
			n.L = append(n.L, uint32(state>>32))
		}
		list = append(list, n)
	}
	return list
}

func TestGood(t *testing.T) {
	for _, n := range []nat.N{{}, words([]uint32{}...), words(1), words(0, 1), words(0, 0, math.MaxUint32)} {
		if !nat.Good(n) {
			t.Errorf("Good(%v) is false", n.L)
		}
	}
	for _, n := range []nat.N{words(0), words(1, 0), words(0, 0), words(math.MaxUint32, 1, 0)} {
		if nat.Good(n) {
			t.Errorf("Good(%v) is true", n.L)
		}
	}
}

func TestOfAndLow(t *testing.T) {
	for _, c := range []struct {
		n    uint64
		want []uint32
	}{
		{0, nil},
		{1, []uint32{1}},
		{math.MaxUint32, []uint32{math.MaxUint32}},
		{math.MaxUint32 + 1, []uint32{0, 1}},
		{0x123456789abcdef0, []uint32{0x9abcdef0, 0x12345678}},
		{math.MaxUint64, []uint32{math.MaxUint32, math.MaxUint32}},
	} {
		n := nat.Of(c.n)
		if !slices.Equal(n.L, c.want) {
			t.Errorf("Of(%d): %v", c.n, n.L)
		}
		for _, zeros := range [][]uint32{nil, {0}, {0, 0, 0}} {
			if low, ok := nat.Low(nat.N{L: slices.Concat(n.L, zeros)}); low != c.n || !ok {
				t.Errorf("Low of %d with %d zero words: %d, %v", c.n, len(zeros), low, ok)
			}
		}
	}
	for _, n := range []nat.N{words(0, 0, 1), words(5, 6, 1), words(0, 0, 0, 1), words(1, 0, 1, 0)} {
		if low, ok := nat.Low(n); low != 0 || ok {
			t.Errorf("Low(%v): %d, %v", n.L, low, ok)
		}
	}
}

func TestPairsAgainstBig(t *testing.T) {
	for _, a := range samples() {
		for _, b := range samples() {
			comparePair(t, a, b)
		}
	}
}

func comparePair(t *testing.T, a, b nat.N) {
	t.Helper()
	x, y := toBig(a), toBig(b)
	pair := " of " + x.String() + " and " + y.String()
	if got := nat.Cmp(a, b); got != x.Cmp(y) {
		t.Errorf("Cmp%s: %d", pair, got)
	}
	wants(t, "Add"+pair, nat.Add(a, b), new(big.Int).Add(x, y))
	wants(t, "Mul"+pair, nat.Mul(a, b), new(big.Int).Mul(x, y))
	wants(t, "Gcd"+pair, nat.Gcd(a, b), new(big.Int).GCD(nil, nil, x, y))
	difference, ok := nat.Sub(a, b)
	if x.Cmp(y) < 0 {
		nothing(t, "Sub"+pair, difference, ok)
	} else {
		wants(t, "Sub"+pair, difference, new(big.Int).Sub(x, y))
		right(t, "Sub"+pair, ok)
	}
	compareDiv(t, a, b)
}

func compareDiv(t *testing.T, a, b nat.N) {
	t.Helper()
	x, y := toBig(a), toBig(b)
	q, r, ok := nat.Div(a, b)
	if y.Sign() == 0 {
		nothing(t, "quotient of "+x.String()+" by 0", q, ok)
		nothing(t, "remainder of "+x.String()+" by 0", r, ok)
		return
	}
	pair := " of " + x.String() + " by " + y.String()
	quotient, rest := new(big.Int).QuoRem(x, y, new(big.Int))
	wants(t, "quotient"+pair, q, quotient)
	wants(t, "remainder"+pair, r, rest)
	right(t, "Div"+pair, ok)
}

// TestDivAtTheEnds divides numbers whose words are at the ends of their range,
// where a digit of the quotient is guessed wrong.
func TestDivAtTheEnds(t *testing.T) {
	ends := []uint32{0, 1, 1<<31 - 1, 1 << 31, math.MaxUint32}
	number := func(code, size int) nat.N {
		n := nat.N{}
		for range size {
			n.L = append(n.L, ends[code%len(ends)])
			code /= len(ends)
		}
		return n
	}
	for high := range 5 * 5 * 5 * 5 * 5 {
		a := number(high, 5)
		for low := range 5 * 5 * 5 {
			if b := number(low, 3); nat.Cmp(b, nat.N{}) > 0 {
				compareDiv(t, a, b)
			}
		}
		if t.Failed() {
			return
		}
	}
}

func TestGcd(t *testing.T) {
	for _, c := range []struct{ a, b, want uint64 }{
		{0, 0, 0}, {0, 6, 6}, {6, 0, 6}, {1, 1, 1}, {12, 18, 6}, {18, 12, 6}, {17, 5, 1}, {1 << 40, 1 << 36, 1 << 36},
	} {
		if got := nat.Gcd(nat.Of(c.a), nat.Of(c.b)); nat.Cmp(got, nat.Of(c.want)) != 0 {
			t.Errorf("Gcd(%d, %d): %s", c.a, c.b, nat.Text(got))
		}
	}
	if got := nat.Gcd(words(0, 0), words(0)); len(got.L) != 0 {
		t.Errorf("Gcd of two zeros that are not valid: %v", got.L)
	}
}

func TestPow(t *testing.T) {
	for _, a := range samples() {
		for _, k := range []int{1, 2, 3, 4, 7, 8, 15, 30, 60, 61} {
			want := new(big.Int).Exp(toBig(a), big.NewInt(int64(k)), nil)
			wants(t, "Pow of "+toBig(a).String(), nat.Pow(a, k), want)
		}
		for _, k := range []int{0, -1, -2, math.MinInt, math.MinInt + 1} {
			wants(t, "Pow below 1 of "+toBig(a).String(), nat.Pow(a, k), big.NewInt(1))
		}
	}
	wants(t, "Pow(0, MaxInt)", nat.Pow(words(0), math.MaxInt), big.NewInt(0))
	wants(t, "Pow(1, MaxInt)", nat.Pow(words(1, 0), math.MaxInt), big.NewInt(1))
	long := nat.Pow(nat.Of(2), 3200000)
	if len(long.L) != 100001 || long.L[100000] != 1 || slices.Max(long.L[:100000]) != 0 {
		t.Errorf("Pow(2, 3200000): %d words", len(long.L))
	}
}

func TestTextAndParse(t *testing.T) {
	list := []string{"0", "1", "9", "10", "4294967295", "4294967296", "18446744073709551615", "18446744073709551616"}
	for digits := 1; digits < 60; digits++ {
		list = append(list, "1"+strings.Repeat("0", digits), "1"+strings.Repeat("0", digits-1)+"1", strings.Repeat("9", digits))
	}
	list = append(list, strings.Repeat("1234567890", 300))
	for _, text := range list {
		value, _ := new(big.Int).SetString(text, 10)
		for _, zeros := range []string{"", "0", "00", strings.Repeat("0", 9), strings.Repeat("0", 100)} {
			n, ok := nat.Parse(zeros + text)
			wants(t, "Parse of "+zeros+text, n, value)
			if !ok || nat.Text(n) != text {
				t.Errorf("Text of Parse(%s%s): %s, %v", zeros, text, nat.Text(n), ok)
			}
		}
	}
	for _, n := range samples() {
		if nat.Text(n) != toBig(n).String() {
			t.Errorf("Text(%v): %s", n.L, nat.Text(n))
		}
	}
	if n, ok := nat.Parse("4294967296"); !ok || !slices.Equal(n.L, []uint32{0, 1}) {
		t.Errorf("Parse(4294967296): %v, %v", n.L, ok)
	}
}

func TestParseRefuses(t *testing.T) {
	list := []string{"", " ", "-", "+", "-0", "-1", "+1", " 1", "1 ", "1\n", "1.0", "1,000", "1_000", "0x10", "1e3", "a", "٣", "１", "\x00", "1\x00", "\xff"}
	for b := range 256 {
		if b < '0' || b > '9' {
			list = append(list, string([]byte{byte(b)}), string([]byte{'1', byte(b)}), string([]byte{byte(b), '1'}), "12345678901"+string([]byte{byte(b)})+"234567890")
		}
	}
	for _, text := range list {
		n, ok := nat.Parse(text)
		nothing(t, "Parse of "+text, n, ok)
	}
}

// guarded returns n in memory whose spare capacity is marked, and a function
// that tells whether it is all as it was.
func guarded(n nat.N) (nat.N, func() bool) {
	const mark = 0xdeadbeef
	whole := append(slices.Clone(n.L), mark, mark, mark)
	before := slices.Clone(whole)
	return nat.N{L: whole[:len(n.L)]}, func() bool { return slices.Equal(whole, before) }
}

// scribble writes over a result, its spare capacity too.
func scribble(n nat.N) {
	whole := n.L[:cap(n.L)]
	for i := range whole {
		whole[i] = 0x5a5a5a5a
	}
}

func TestResultsAreNewMemory(t *testing.T) {
	calls := func(a, b nat.N) []nat.N {
		difference, _ := nat.Sub(a, b)
		q, r, _ := nat.Div(a, b)
		nat.Low(a)
		nat.Good(a)
		nat.Text(a)
		nat.Cmp(a, b)
		return []nat.N{nat.Add(a, b), nat.Mul(a, b), difference, q, r, nat.Gcd(a, b), nat.Pow(a, 0), nat.Pow(a, 1), nat.Pow(a, 2)}
	}
	for _, x := range samples() {
		for _, y := range samples() {
			a, aKept := guarded(x)
			b, bKept := guarded(y)
			results, again := calls(a, b), calls(a, b)
			for i := range results {
				scribble(results[i])
				for j := i + 1; j < len(results); j++ {
					if !slices.Equal(results[j].L, again[j].L) {
						t.Fatalf("results %d and %d of %v and %v share memory", i, j, x.L, y.L)
					}
				}
			}
			if !aKept() || !bKept() {
				t.Fatalf("an argument has changed: %v or %v", x.L, y.L)
			}
		}
	}
}

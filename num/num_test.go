package num_test

import (
	"math"
	"math/big"
	"slices"
	"strings"
	"testing"

	"cubit/nat"
	"cubit/num"
)

// toBig makes a number of the library, which tells what a result should be.
func toBig(z num.Z) *big.Int {
	value := new(big.Int)
	for _, word := range slices.Backward(z.N.L) {
		value.Lsh(value, 32)
		value.Or(value, big.NewInt(int64(word)))
	}
	if z.Neg {
		value.Neg(value)
	}
	return value
}

func words(negative bool, list ...uint32) num.Z {
	return num.Z{Neg: negative, N: nat.N{L: list}}
}

// isNothing reports whether z is the zero value: 0 without words.
func isNothing(z num.Z) bool { return !z.Neg && len(z.N.L) == 0 }

// wants fails the test if z is not valid or not the number that is wanted.
// Validity is looked at here, so that the test does not lean on Good.
func wants(t *testing.T, what string, z num.Z, want *big.Int) {
	t.Helper()
	size := len(z.N.L)
	valid := size == 0 && !z.Neg || size > 0 && z.N.L[size-1] != 0
	if !valid || toBig(z).Cmp(want) != 0 {
		t.Errorf("%s: %v %v, want %s", what, z.Neg, z.N.L, want)
	}
}

// samples returns numbers of both signs, of zero to five words, most of them
// made of words at the ends of their range, some of them not valid.
func samples() []num.Z {
	sizes := [][]uint32{
		nil, {0}, {0, 0, 0}, {1}, {2}, {3}, {7, 0, 0}, {10}, {1 << 31}, {math.MaxUint32},
		{math.MaxUint32, 0}, {0, 1}, {1, 1}, {0, 1 << 31}, {math.MaxUint32, math.MaxUint32 >> 1},
		{math.MaxUint32, math.MaxUint32}, {0, 0, 1}, {0, 0, 1, 0, 0}, {1, 0, 1 << 31},
		{math.MaxUint32, math.MaxUint32, math.MaxUint32}, {0, 0, 0, 0, 1 << 31},
	}
	state := uint64(1)
	for i := range 10 {
		var list []uint32
		for range i%5 + 1 {
			state = state*6364136223846793005 + 1442695040888963407
			list = append(list, uint32(state>>32))
		}
		sizes = append(sizes, list)
	}
	var list []num.Z
	for _, size := range sizes {
		list = append(list, words(false, size...), words(true, slices.Clone(size)...))
	}
	return list
}

func TestGood(t *testing.T) {
	for _, z := range []num.Z{{}, words(false, []uint32{}...), words(false, 1), words(true, 1), words(true, 0, 1), words(false, 0, 0, math.MaxUint32)} {
		if !num.Good(z) {
			t.Errorf("Good(%v) is false", z)
		}
	}
	for _, z := range []num.Z{{Neg: true}, words(true, []uint32{}...), words(false, 0), words(true, 0), words(true, 0, 0), words(false, 5, 0), words(true, 5, 0)} {
		if num.Good(z) {
			t.Errorf("Good(%v) is true", z)
		}
	}
}

func TestOf(t *testing.T) {
	for _, n := range []int64{0, 1, -1, 7, -7, math.MaxUint32, -math.MaxUint32, 1 << 32, -1 << 32, math.MaxInt64, -math.MaxInt64, math.MinInt64} {
		wants(t, "Of", num.Of(n), big.NewInt(n))
	}
	if z := num.Of(math.MinInt64); !z.Neg || !slices.Equal(z.N.L, []uint32{0, 1 << 31}) {
		t.Errorf("Of the least number: %v", z)
	}
}

func TestSamplesAgainstBig(t *testing.T) {
	for _, a := range samples() {
		x := toBig(a)
		if num.Sign(a) != x.Sign() {
			t.Errorf("Sign(%v): %d", a, num.Sign(a))
		}
		if num.Text(a) != x.String() {
			t.Errorf("Text(%v): %s", a, num.Text(a))
		}
		wants(t, "Neg of "+x.String(), num.Neg(a), new(big.Int).Neg(x))
		for _, b := range samples() {
			comparePair(t, a, b)
		}
	}
}

func comparePair(t *testing.T, a, b num.Z) {
	t.Helper()
	x, y := toBig(a), toBig(b)
	pair := " of " + x.String() + " and " + y.String()
	if got := num.Cmp(a, b); got != x.Cmp(y) {
		t.Errorf("Cmp%s: %d", pair, got)
	}
	wants(t, "Add"+pair, num.Add(a, b), new(big.Int).Add(x, y))
	wants(t, "Mul"+pair, num.Mul(a, b), new(big.Int).Mul(x, y))
	q, r, ok := num.Div(a, b)
	if y.Sign() == 0 {
		if ok || !isNothing(q) || !isNothing(r) {
			t.Errorf("Div%s: %v, %v, %v", pair, q, r, ok)
		}
		return
	}
	// The library's DivMod leaves a remainder that is never negative either.
	quotient, rest := new(big.Int).DivMod(x, y, new(big.Int))
	wants(t, "quotient"+pair, q, quotient)
	wants(t, "remainder"+pair, r, rest)
	if !ok {
		t.Errorf("Div%s: false", pair)
	}
}

func TestDiv(t *testing.T) {
	for _, c := range []struct{ a, b, q, r int64 }{
		{7, 2, 3, 1}, {-7, 2, -4, 1}, {7, -2, -3, 1}, {-7, -2, 4, 1},
		{6, 2, 3, 0}, {-6, 2, -3, 0}, {6, -2, -3, 0}, {-6, -2, 3, 0},
		{1, 5, 0, 1}, {-1, 5, -1, 4}, {1, -5, 0, 1}, {-1, -5, 1, 4},
		{0, 5, 0, 0}, {0, -5, 0, 0}, {math.MinInt64, 1, math.MinInt64, 0},
		{math.MinInt64, math.MaxInt64, -2, math.MaxInt64 - 1},
	} {
		q, r, ok := num.Div(num.Of(c.a), num.Of(c.b))
		wants(t, "quotient", q, big.NewInt(c.q))
		wants(t, "remainder", r, big.NewInt(c.r))
		if !ok {
			t.Errorf("Div(%d, %d): false", c.a, c.b)
		}
	}
}

func TestParse(t *testing.T) {
	for _, digits := range []string{"0", "1", "9", "4294967296", "9223372036854775808", "18446744073709551616", strings.Repeat("1234567890", 20)} {
		for _, before := range []string{"", "-", "0", "-0", "000000000000", "-000000000000"} {
			want, _ := new(big.Int).SetString(before+digits, 10)
			z, ok := num.Parse(before + digits)
			wants(t, "Parse of "+before+digits, z, want)
			if !ok || num.Text(z) != want.String() {
				t.Errorf("Text of Parse(%s%s): %s, %v", before, digits, num.Text(z), ok)
			}
		}
	}
}

func TestParseRefuses(t *testing.T) {
	list := []string{"", "-", "--", "--1", "-+1", "+1", "+", "- 1", "-1 ", " -1", " 1", "1-", "1-1", "-1-", "-1.0", "1/2", "-0x1", "-1e3", "\u22121", "-\u0663", "-\x00", "1\x00", "-\xff"}
	for b := range 256 {
		if b >= '0' && b <= '9' {
			continue
		}
		other := string([]byte{byte(b)})
		list = append(list, other, "1"+other, "-1"+other, "-"+other+"1", "-"+other)
		if b != '-' {
			list = append(list, other+"1")
		}
	}
	for _, text := range list {
		if z, ok := num.Parse(text); ok || !isNothing(z) {
			t.Errorf("Parse(%q): %v, %v", text, z, ok)
		}
	}
}

// guarded returns z in memory whose spare capacity is marked, and a function
// that tells whether it is all as it was.
func guarded(z num.Z) (num.Z, func() bool) {
	const mark = 0xdeadbeef
	whole := append(slices.Clone(z.N.L), mark, mark, mark)
	before := slices.Clone(whole)
	return words(z.Neg, whole[:len(z.N.L)]...), func() bool { return slices.Equal(whole, before) }
}

// scribble writes over a result, its spare capacity too.
func scribble(z num.Z) {
	whole := z.N.L[:cap(z.N.L)]
	for i := range whole {
		whole[i] = 0x5a5a5a5a
	}
}

func TestResultsAreNewMemory(t *testing.T) {
	calls := func(a, b num.Z) []num.Z {
		num.Good(a)
		num.Sign(a)
		num.Cmp(a, b)
		num.Text(a)
		q, r, _ := num.Div(a, b)
		return []num.Z{num.Neg(a), num.Add(a, b), num.Mul(a, b), q, r}
	}
	for _, x := range samples() {
		for _, y := range samples() {
			a, aKept := guarded(x)
			b, bKept := guarded(y)
			results, again := calls(a, b), calls(a, b)
			for i := range results {
				scribble(results[i])
				for j := i + 1; j < len(results); j++ {
					if !slices.Equal(results[j].N.L, again[j].N.L) {
						t.Fatalf("results %d and %d of %v and %v share memory", i, j, x, y)
					}
				}
			}
			if !aKept() || !bKept() {
				t.Fatalf("an argument has changed: %v or %v", x, y)
			}
		}
	}
}

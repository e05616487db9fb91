package dims_test

import (
	"fmt"
	"math"
	"math/big"
	"slices"
	"strings"
	"testing"

	"cubit/api"
	"cubit/dims"
)

// edges are the exponents and factors at which an answer may change: about 0,
// about the limit, about its halves and roots, and where an int ends or a
// product of two wraps round.
var edges = []int{
	0, 1, -1, 2, -2, 3, -3, 4, 5, 7, 9, -9, 10, -10, 11, -11, 12, 13, 14, 15,
	33, 34, 49, 50, -50, 51, -51, 98, 99, -99, 100, -100, 101, -101, 102, 127, 128,
	-128, 199, 200, -200, 201, 255, 256, 10000, -10000, 32767, 65535, 65536,
	math.MaxInt32, math.MinInt32, 1 << 32, 1<<32 + 1, -1 << 32,
	1 << 57, 1 << 58, 1 << 59, 1 << 60, 1 << 61, 1 << 62, -1 << 62, 1<<62 + 1,
	math.MaxInt, math.MaxInt - 1, math.MinInt, math.MinInt + 1,
}

// places is the number of the exponents of a vector.
const places = len(dims.V{})

// at returns the vector with the exponent at index i and 0 elsewhere.
func at(i, exponent int) dims.V {
	var v dims.V
	v[i] = exponent
	return v
}

// all returns the vector of that exponent alone.
func all(exponent int) dims.V {
	var v dims.V
	for i := range v {
		v[i] = exponent
	}
	return v
}

// ints returns the exponents as integers of any size.
func ints(v dims.V) []*big.Int {
	var list []*big.Int
	for _, exponent := range v {
		list = append(list, big.NewInt(int64(exponent)))
	}
	return list
}

// small reports whether each integer is from -MaxDim to MaxDim.
func small(l []*big.Int) bool {
	for _, n := range l {
		if n.CmpAbs(big.NewInt(api.MaxDim)) > 0 {
			return false
		}
	}
	return true
}

// wanted returns what a call should return whose arguments are these and whose
// result, reckoned without limits, is that.
func wanted(result []*big.Int, arguments ...dims.V) (dims.V, bool) {
	for _, a := range arguments {
		if !small(ints(a)) {
			return dims.V{}, false
		}
	}
	if !small(result) {
		return dims.V{}, false
	}
	var v dims.V
	for i := range v {
		v[i] = int(result[i].Int64())
	}
	return v, true
}

func checkAdd(t *testing.T, a, b dims.V) {
	t.Helper()
	sum := ints(a)
	for i, n := range ints(b) {
		sum[i].Add(sum[i], n)
	}
	want, fine := wanted(sum, a, b)
	if got, ok := dims.Add(a, b); got != want || ok != fine {
		t.Errorf("Add(%v, %v): %v, %v, want %v, %v", a, b, got, ok, want, fine)
	}
}

func checkTimes(t *testing.T, a dims.V, k int) {
	t.Helper()
	product := ints(a)
	for _, n := range product {
		n.Mul(n, big.NewInt(int64(k)))
	}
	want, fine := wanted(product, a)
	if got, ok := dims.Times(a, k); got != want || ok != fine {
		t.Errorf("Times(%v, %d): %v, %v, want %v, %v", a, k, got, ok, want, fine)
	}
}

func checkNeg(t *testing.T, a dims.V) {
	t.Helper()
	minus := ints(a)
	for _, n := range minus {
		n.Neg(n)
	}
	want, _ := wanted(minus, a)
	if got := dims.Neg(a); got != want {
		t.Errorf("Neg(%v): %v, want %v", a, got, want)
	}
}

func TestBase(t *testing.T) {
	for i, want := range []dims.V{
		{1, 0, 0, 0, 0, 0, 0, 0},
		{0, 1, 0, 0, 0, 0, 0, 0},
		{0, 0, 1, 0, 0, 0, 0, 0},
		{0, 0, 0, 1, 0, 0, 0, 0},
		{0, 0, 0, 0, 1, 0, 0, 0},
		{0, 0, 0, 0, 0, 1, 0, 0},
		{0, 0, 0, 0, 0, 0, 1, 0},
		{0, 0, 0, 0, 0, 0, 0, 1},
	} {
		if got, ok := dims.Base(i); got != want || !ok {
			t.Errorf("Base(%d): %v, %v", i, got, ok)
		}
	}
	for _, i := range []int{-1, -2, -8, 8, 9, 64, 256, -256, 1 << 32, math.MaxInt, math.MinInt} {
		if got, ok := dims.Base(i); got != (dims.V{}) || ok {
			t.Errorf("Base(%d): %v, %v", i, got, ok)
		}
	}
}

func TestAdd(t *testing.T) {
	for _, c := range []struct {
		a, b, want dims.V
		ok         bool
	}{
		{dims.V{1, 2}, dims.V{3, -5, 7}, dims.V{4, -3, 7}, true},
		{dims.V{1, 2, 3, 4, 5, 6, 7, 8}, dims.V{10, 20, 30, 40, 50, 60, 70, 80}, dims.V{11, 22, 33, 44, 55, 66, 77, 88}, true},
		{dims.V{}, dims.V{}, dims.V{}, true},
		{all(50), all(50), all(100), true},
		{all(-50), all(-50), all(-100), true},
		{all(100), all(-100), dims.V{}, true},
		{all(50), all(51), dims.V{}, false},
		{all(-51), all(-50), dims.V{}, false},
		// The sum would be valid, but an argument is not.
		{dims.V{101}, dims.V{-1}, dims.V{}, false},
		{dims.V{-101}, dims.V{1}, dims.V{}, false},
		{dims.V{0, 0, 0, 0, 0, 0, 0, math.MaxInt}, dims.V{0, 0, 0, 0, 0, 0, 0, math.MinInt}, dims.V{}, false},
		{dims.V{math.MinInt}, dims.V{math.MinInt}, dims.V{}, false},
		{dims.V{math.MaxInt}, dims.V{math.MaxInt}, dims.V{}, false},
	} {
		for range 2 {
			if got, ok := dims.Add(c.a, c.b); got != c.want || ok != c.ok {
				t.Errorf("Add(%v, %v): %v, %v", c.a, c.b, got, ok)
			}
			c.a, c.b = c.b, c.a
		}
	}
}

// TestAddOfEdges holds sums against sums of integers of any size, in every
// place and with valid exponents beside them.
func TestAddOfEdges(t *testing.T) {
	for _, m := range edges {
		for _, n := range edges {
			for i := range places {
				checkAdd(t, at(i, m), at(i, n))
				a, b := all(3), all(-4)
				a[i], b[i] = m, n
				checkAdd(t, a, b)
				checkAdd(t, at(i, m), at((i+3)%places, n))
			}
			checkAdd(t, all(m), all(n))
		}
	}
}

// TestAddOfAll adds every two valid exponents, and some that are not.
func TestAddOfAll(t *testing.T) {
	for m := -103; m <= 103; m++ {
		for n := -103; n <= 103; n++ {
			checkAdd(t, dims.V{m, 0, 0, n}, dims.V{n, 0, 0, m})
		}
	}
}

func TestTimes(t *testing.T) {
	for _, c := range []struct {
		a    dims.V
		k    int
		want dims.V
		ok   bool
	}{
		{dims.V{1, -2, 0, 5}, 3, dims.V{3, -6, 0, 15}, true},
		{dims.V{1, -2, 3, -4, 5, -6, 7, -8}, -2, dims.V{-2, 4, -6, 8, -10, 12, -14, 16}, true},
		{dims.V{1, -2}, 1, dims.V{1, -2}, true},
		{dims.V{100, -100}, 0, dims.V{}, true},
		{dims.V{100, -100}, -1, dims.V{-100, 100}, true},
		{all(10), 10, all(100), true},
		{all(10), -10, all(-100), true},
		{all(-1), 100, all(-100), true},
		{all(-1), 101, dims.V{}, false},
		{all(1), -101, dims.V{}, false},
		{all(50), 3, dims.V{}, false},
		{all(51), 2, dims.V{}, false},
		// Nothing remains nothing, however often it is taken.
		{dims.V{}, 101, dims.V{}, true},
		{dims.V{}, math.MaxInt, dims.V{}, true},
		{dims.V{}, math.MinInt, dims.V{}, true},
		// The multiple would be valid, but the argument is not.
		{dims.V{101}, 0, dims.V{}, false},
		{dims.V{0, math.MinInt}, 0, dims.V{}, false},
		// The product of two ints would wrap round to one that is valid.
		{dims.V{2}, math.MinInt, dims.V{}, false},
		{dims.V{2}, math.MaxInt, dims.V{}, false},
		{dims.V{4}, 1 << 62, dims.V{}, false},
		{dims.V{64}, 1 << 58, dims.V{}, false},
		{dims.V{64}, 1<<58 + 1, dims.V{}, false},
		{dims.V{16, 0, -16}, -1 << 60, dims.V{}, false},
		{dims.V{0, 0, 0, 0, 0, 0, 0, 4}, 1<<62 + 1, dims.V{}, false},
	} {
		if got, ok := dims.Times(c.a, c.k); got != c.want || ok != c.ok {
			t.Errorf("Times(%v, %d): %v, %v", c.a, c.k, got, ok)
		}
	}
}

// TestTimesOfEdges holds multiples against products of integers of any size.
func TestTimesOfEdges(t *testing.T) {
	for _, m := range edges {
		for _, k := range edges {
			for i := range places {
				checkTimes(t, at(i, m), k)
				a := all(1)
				a[i] = m
				checkTimes(t, a, k)
			}
			checkTimes(t, all(m), k)
		}
	}
}

// TestTimesOfAll multiplies every valid exponent, and some that are not.
func TestTimesOfAll(t *testing.T) {
	for m := -103; m <= 103; m++ {
		for k := -103; k <= 103; k++ {
			checkTimes(t, dims.V{0, m}, k)
		}
	}
}

func TestNeg(t *testing.T) {
	for a, want := range map[dims.V]dims.V{
		{1, -2, 100}:               {-1, 2, -100},
		{1, 2, 3, 4, 5, 6, 7, -8}:  {-1, -2, -3, -4, -5, -6, -7, 8},
		{}:                         {},
		all(100):                   all(-100),
		all(-100):                  all(100),
		{101, 3}:                   {},
		{3, -101}:                  {},
		{0, 0, 0, 0, 0, 0, 1, 101}: {},
		{math.MinInt}:              {},
		{1, math.MaxInt}:           {},
	} {
		if got := dims.Neg(a); got != want {
			t.Errorf("Neg(%v): %v, want %v", a, got, want)
		}
	}
	for _, m := range edges {
		for i := range places {
			checkNeg(t, at(i, m))
			a := all(-7)
			a[i] = m
			checkNeg(t, a)
		}
		checkNeg(t, all(m))
	}
	for m := -103; m <= 103; m++ {
		checkNeg(t, dims.V{m, 0, 0, 0, 0, 0, 0, -m})
	}
}

func TestSame(t *testing.T) {
	for _, m := range edges {
		for _, n := range edges {
			for i := range places {
				if got := dims.Same(at(i, m), at(i, n)); got != (m == n) {
					t.Errorf("Same(%v, %v): %v", at(i, m), at(i, n), got)
				}
				// Another place is another vector, unless both are nothing.
				j := (i + 1) % places
				if got := dims.Same(at(i, m), at(j, n)); got != (m == 0 && n == 0) {
					t.Errorf("Same(%v, %v): %v", at(i, m), at(j, n), got)
				}
			}
		}
	}
	// The same exponents in another order, and what is opposite.
	if dims.Same(dims.V{1, 2, 3, 4, 5, 6, 7, 8}, dims.V{8, 7, 6, 5, 4, 3, 2, 1}) || dims.Same(all(1), all(-1)) {
		t.Errorf("Same of others")
	}
	// Vectors that are not valid are equal too, although their opposites are zeros.
	if !dims.Same(all(101), all(101)) || dims.Same(all(101), all(102)) || dims.Same(all(101), dims.V{}) {
		t.Errorf("Same of vectors that are not valid")
	}
}

func TestText(t *testing.T) {
	for a, want := range map[dims.V]string{
		{}:                               "0,0,0,0,0,0,0,0",
		{0, 1}:                           "0,1,0,0,0,0,0,0",
		{1, -2, 3, -4, 5, -6, 7, -8}:     "1,-2,3,-4,5,-6,7,-8",
		{100, -100, 10, -10, 99, -99, 9}: "100,-100,10,-10,99,-99,9,0",
		// It is the text of a vector that is not valid, too.
		{101, -101}:                          "101,-101,0,0,0,0,0,0",
		{math.MaxInt, 0, 0, 0, 0, 0, 0, 1e6}: "9223372036854775807,0,0,0,0,0,0,1000000",
		all(math.MinInt):                     strings.TrimPrefix(strings.Repeat(",-9223372036854775808", 8), ","),
	} {
		if got := dims.Text(a); got != want {
			t.Errorf("Text(%v): %s, want %s", a, got, want)
		}
	}
	for _, m := range edges {
		for i := range places {
			a := all(-1)
			a[i] = m
			want := strings.ReplaceAll(strings.Trim(fmt.Sprint(a), "[]"), " ", ",")
			if got := dims.Text(a); got != want {
				t.Errorf("Text(%v): %s", a, got)
			}
		}
	}
	if v, _ := dims.Base(1); dims.Text(v) != "0,1,0,0,0,0,0,0" {
		t.Errorf("Text of Base(1): %s", dims.Text(v))
	}
}

// named fails the test unless v has that name.
func named(t *testing.T, n *dims.Names, v dims.V, name string) {
	t.Helper()
	if got, ok := n.Get(v); got != name || !ok {
		t.Errorf("Get(%v): %q, %v, want %q", v, got, ok, name)
	}
}

// nameless fails the test unless v has no name.
func nameless(t *testing.T, n *dims.Names, v dims.V) {
	t.Helper()
	if got, ok := n.Get(v); got != "" || ok {
		t.Errorf("Get(%v): %q, %v, want none", v, got, ok)
	}
}

// listed fails the test unless all names are those.
func listed(t *testing.T, n *dims.Names, names ...string) {
	t.Helper()
	if got := n.All(); !slices.Equal(got, names) {
		t.Errorf("All: %q, want %q", got, names)
	}
}

func put(t *testing.T, n *dims.Names, v dims.V, name string, want bool) {
	t.Helper()
	if got := n.Put(v, name); got != want {
		t.Errorf("Put(%v, %q): %v", v, name, got)
	}
}

func TestNames(t *testing.T) {
	n := dims.NewNames()
	listed(t, n)
	nameless(t, n, dims.V{})
	nameless(t, n, dims.V{1})

	put(t, n, dims.V{0, 1}, "length", true)
	put(t, n, dims.V{1}, "mass", true)
	put(t, n, dims.V{}, "number", true)
	put(t, n, dims.V{0, -1}, "any bytes \xff\n,", true)
	listed(t, n, "length", "mass", "number", "any bytes \xff\n,")
	named(t, n, dims.V{0, 1}, "length")
	named(t, n, dims.V{1}, "mass")
	named(t, n, dims.V{}, "number")
	named(t, n, dims.V{0, -1}, "any bytes \xff\n,")
	nameless(t, n, dims.V{-1})
	nameless(t, n, dims.V{0, 0, 1})
	nameless(t, n, dims.V{1, 1})

	// Two vectors may have the same name.
	put(t, n, dims.V{2}, "length", true)
	named(t, n, dims.V{2}, "length")
	named(t, n, dims.V{0, 1}, "length")
	listed(t, n, "length", "mass", "number", "any bytes \xff\n,", "length")
}

// TestNamesRefused has what is not assigned, which must not be seen later.
func TestNamesRefused(t *testing.T) {
	n := dims.NewNames()
	put(t, n, dims.V{1}, "", false)
	nameless(t, n, dims.V{1})
	listed(t, n)

	put(t, n, dims.V{1}, "mass", true)
	put(t, n, dims.V{1}, "mass", false)
	put(t, n, dims.V{1}, "weight", false)
	put(t, n, dims.V{1}, "", false)
	put(t, n, dims.V{2}, "", false)
	put(t, n, dims.V{}, "", false)
	named(t, n, dims.V{1}, "mass")
	nameless(t, n, dims.V{2})
	nameless(t, n, dims.V{})
	listed(t, n, "mass")

	// A vector that was refused may have a name later, and one that was asked
	// for.
	put(t, n, dims.V{2}, "weight", true)
	put(t, n, dims.V{}, " ", true)
	named(t, n, dims.V{2}, "weight")
	listed(t, n, "mass", "weight", " ")
}

// TestNamesOfAnyVector names vectors that are not valid, for the promise asks
// for no valid one.
func TestNamesOfAnyVector(t *testing.T) {
	n := dims.NewNames()
	put(t, n, dims.V{101}, "a", true)
	put(t, n, dims.V{-101}, "b", true)
	put(t, n, all(math.MinInt), "c", true)
	put(t, n, dims.V{101}, "d", false)
	named(t, n, dims.V{101}, "a")
	named(t, n, dims.V{-101}, "b")
	named(t, n, all(math.MinInt), "c")
	nameless(t, n, all(math.MaxInt))
	nameless(t, n, dims.V{})
	listed(t, n, "a", "b", "c")
}

// TestManyNames has more names than a map keeps in order by chance.
func TestManyNames(t *testing.T) {
	n := dims.NewNames()
	var want []string
	for i := -60; i <= 60; i++ {
		for j := -20; j <= 20; j++ {
			name := fmt.Sprint(i*j, "of", j, i)
			put(t, n, dims.V{0, i, 0, 0, 0, j}, name, true)
			want = append(want, name)
		}
	}
	listed(t, n, want...)
	for i := -60; i <= 60; i++ {
		for j := -20; j <= 20; j++ {
			put(t, n, dims.V{0, i, 0, 0, 0, j}, "more", false)
			named(t, n, dims.V{0, i, 0, 0, 0, j}, fmt.Sprint(i*j, "of", j, i))
			if j != 0 {
				nameless(t, n, dims.V{0, i, 0, 0, j})
			}
		}
	}
	listed(t, n, want...)
}

// TestNamesApart looks that one assignment knows nothing of another.
func TestNamesApart(t *testing.T) {
	a, b := dims.NewNames(), dims.NewNames()
	put(t, a, dims.V{1}, "mass", true)
	nameless(t, b, dims.V{1})
	listed(t, b)
	put(t, b, dims.V{1}, "weight", true)
	put(t, b, dims.V{2}, "area", true)
	named(t, a, dims.V{1}, "mass")
	named(t, b, dims.V{1}, "weight")
	nameless(t, a, dims.V{2})
	listed(t, a, "mass")
	listed(t, b, "weight", "area")
	listed(t, dims.NewNames())
}

// scribble writes over a list, its spare capacity too.
func scribble(list []string) {
	whole := list[:cap(list)]
	for i := range whole {
		whole[i] = "scribble"
	}
}

// TestAllIsNewMemory writes over every list that was returned, and appends to
// it, between calls that assign more names.
func TestAllIsNewMemory(t *testing.T) {
	n := dims.NewNames()
	var want []string
	for i := range 40 {
		before := n.All()
		name := fmt.Sprint("name", i)
		put(t, n, dims.V{i}, name, true)
		if !slices.Equal(before, want) {
			t.Fatalf("a name that was assigned later has changed the list: %q", before)
		}
		want = append(want, name)
		listed(t, n, want...)
		one, other := n.All(), n.All()
		scribble(append(one, "more"))
		scribble(one)
		scribble(before)
		if !slices.Equal(other, want) {
			t.Fatalf("two lists share memory: %q", other)
		}
		listed(t, n, want...)
		named(t, n, dims.V{i}, name)
	}
}

// TestVectorsAreKept looks that what is done with a vector does not change the
// one that was given.
func TestVectorsAreKept(t *testing.T) {
	a, b := dims.V{1, -2, 3}, dims.V{4, 5, -6}
	dims.Add(a, b)
	dims.Times(a, 7)
	dims.Neg(a)
	n := dims.NewNames()
	n.Put(a, "x")
	key := a
	a[0] = 9
	nameless(t, n, a)
	named(t, n, key, "x")
	if key != (dims.V{1, -2, 3}) || b != (dims.V{4, 5, -6}) {
		t.Errorf("the calls have changed %v, %v", key, b)
	}
}

package conv_test

import (
	"fmt"
	"math"
	"math/big"
	"math/rand"
	"slices"
	"strings"
	"testing"

	"cubit/api"
	"cubit/atom"
	"cubit/conv"
	"cubit/dims"
	"cubit/nat"
	"cubit/num"
	"cubit/rat"
	"cubit/reduce"
	"cubit/rows"
	"cubit/table"
	"cubit/unit"
)

// common is the table of most of the tests.
const common = `base meter length
base second duration
base kelvin temperature
prefix kilo 10 3
prefix milli 10 -3
unit foot 381/1250 meter
unit inch 1/12 foot
unit mile 5280 foot
unit minute 60 second
unit hour 60 minute
unit liter 1 cubic-meter-per-1000
unit gallon 231 cubic-inch
unit hertz 1 per-second
unit celsius 1 kelvin 5463/20
unit fahrenheit 5/9 kelvin 45967/180
unit level 3 kelvin 0
unit below 2 kelvin -7
unit percent 1 per-100
unit hot 1 pow15-kelvin
unit hotter 1 pow6-hot-pow10-kelvin
`

// loads returns the table of a text, which must be valid.
func loads(t *testing.T, text string) *table.Table {
	t.Helper()
	l, line, e := rows.Parse(text)
	if e != api.OK {
		t.Fatalf("rows.Parse: line %d, error %d", line, e)
	}
	x, line, e := table.Load(l)
	if e != api.OK {
		t.Fatalf("Load: line %d, error %d", line, e)
	}
	return x
}

// parses returns the unit that id writes, which must be one.
func parses(t *testing.T, x *table.Table, id string) unit.Unit {
	t.Helper()
	u, e := x.Parse(id)
	if e != api.OK {
		t.Fatalf("Parse(%s): error %d", id, e)
	}
	return u
}

// ratOf returns the fraction that s, which has its form, writes.
func ratOf(s string) rat.Q {
	q, ok := rat.Parse(s)
	if !ok {
		panic(s)
	}
	return q
}

// rats returns the fractions of a text with spaces between them.
func rats(s string) []rat.Q {
	var l []rat.Q
	for _, word := range strings.Fields(s) {
		l = append(l, ratOf(word))
	}
	return l
}

// plain returns an atom without prefix.
func plain(name string, power int) atom.Atom {
	return atom.Atom{Name: name, Power: power}
}

// wants fails the test unless a result is what is wanted, beside no error, or 0
// beside the error that is wanted.
func wants(t *testing.T, what string, q rat.Q, e api.Errno, want string, wantError api.Errno) {
	t.Helper()
	if wantError != api.OK {
		want = "0"
	}
	if e != wantError || rat.Text(q) != want || !rat.Good(q) {
		t.Errorf("%s: %s, error %d, want %s, error %d", what, rat.Text(q), e, want, wantError)
	}
}

func TestFrom(t *testing.T) {
	x := loads(t, common)
	for _, c := range []struct{ q, a, b, want string }{
		{"12", "inch", "foot", "1"}, {"1", "foot", "inch", "12"}, {"0", "foot", "inch", "0"}, {"-1/2", "foot", "inch", "-6"}, {"1", "mile", "kilometer", "25146/15625"},
		{"1", "gallon", "liter", "473176473/125000000"}, {"1", "gallon", "cubic-inch", "231"}, {"7/3", "meter", "meter", "7/3"}, {"1", "square-foot", "square-inch", "144"},
		{"3", "kilometer-per-hour", "meter-per-minute", "50"}, {"1", "inch-foot", "square-inch", "12"}, {"5", "hertz", "per-minute", "300"}, {"5", "percent", "per-1000", "50"},
		// One that has no dimension goes straight.
		{"50", "percent", "per-100", "50"}, {"1", "meter-per-foot", "inch-per-inch", "1250/381"}, {"0", "percent", "per-7", "0"},
		// Offsets, of one side and of both.
		{"0", "celsius", "kelvin", "5463/20"}, {"0", "kelvin", "celsius", "-5463/20"}, {"-40", "celsius", "fahrenheit", "-40"}, {"212", "fahrenheit", "celsius", "100"},
		{"98", "fahrenheit", "celsius", "110/3"}, {"37/2", "celsius", "celsius", "37/2"}, {"0", "celsius", "millikelvin", "273150"}, {"273150", "millikelvin", "celsius", "0"},
		{"1", "level", "kelvin", "3"}, {"7", "kelvin", "level", "7/3"}, {"4", "below", "kelvin", "1"}, {"1", "kelvin", "below", "4"}, {"4", "below", "level", "1/3"}, {"1", "celsius", "kelvin-second-per-second", "5483/20"},
		// The other way.
		{"8", "liter-per-100-kilometer", "kilometer-per-liter", "25/2"}, {"25/2", "kilometer-per-liter", "liter-per-100-kilometer", "8"},
		{"30", "mile-per-gallon", "liter-per-100-kilometer", "112903/14400"}, {"5", "second", "hertz", "1/5"}, {"-2", "hertz", "second", "-1/2"}, {"5", "second", "per-kilosecond", "200"},
		{"2", "minute-per-kilometer", "meter-per-second", "25/3"}, {"3", "kelvin", "per-kelvin", "1/3"}, {"4", "square-foot", "per-square-inch", "1/576"},
	} {
		q, e := conv.From(x, ratOf(c.q), parses(t, x, c.a).Parts[0], parses(t, x, c.b).Parts[0])
		wants(t, c.q+" "+c.a+" in "+c.b, q, e, c.want, api.OK)
	}
}

// TestFromIsExact has long numbers, and goes there and back.
func TestFromIsExact(t *testing.T) {
	x := loads(t, common)
	long := strings.Repeat("7", 300) + "/1" + strings.Repeat("0", 299)
	for _, c := range [][2]string{
		{"foot", "kilometer"}, {"celsius", "fahrenheit"}, {"below", "celsius"}, {"liter-per-100-kilometer", "mile-per-gallon"}, {"pow15-inch", "pow14-foot-mile"}, {"percent", "inch-per-mile"}, {"hertz", "hour"},
	} {
		a, b := parses(t, x, c[0]).Parts[0], parses(t, x, c[1]).Parts[0]
		for _, s := range []string{long, "-" + long, "1/3", "-22/7", "1" + strings.Repeat("0", 200)} {
			q := ratOf(s)
			there, e := conv.From(x, q, a, b)
			back, f := conv.From(x, there, b, a)
			wants(t, c[0]+" in "+c[1]+" and back", back, max(e, f), rat.Text(q), api.OK)
		}
	}
}

// TestFromErrors has one fault, and several, of which the first one counts.
func TestFromErrors(t *testing.T) {
	x := loads(t, common)
	part := func(id string) unit.Part { return parses(t, x, id).Parts[0] }
	zero, none, powerless := part("meter"), part("meter"), part("meter")
	zero.Const, none.Num[0].Name, powerless.Num[0].Power = nat.N{}, "metre", 0
	parts := map[string]unit.Part{"ZERO": zero, "NONE": none, "POWERLESS": powerless}
	for _, c := range []struct {
		q, a, b string
		want    api.Errno
	}{
		{"1", "meter", "second", api.EDIM}, {"0", "meter", "second", api.EDIM}, {"1", "meter", "square-meter", api.EDIM}, {"1", "meter", "percent", api.EDIM},
		{"1", "meter-per-second", "meter-second", api.EDIM}, {"1", "celsius", "second", api.EDIM}, {"1", "second", "celsius", api.EDIM}, {"1", "square-meter", "per-meter", api.EDIM},
		{"1", "celsius", "per-kelvin", api.EOFFSET}, {"1", "per-kelvin", "celsius", api.EOFFSET}, {"0", "per-kelvin", "celsius", api.EOFFSET}, {"0", "level", "per-kelvin", api.EOFFSET},
		{"0", "second", "hertz", api.EZERO}, {"0", "hertz", "second", api.EZERO}, {"0", "liter-per-100-kilometer", "kilometer-per-liter", api.EZERO}, {"0", "kelvin", "per-kelvin", api.EZERO},
		// What is wrong with the units comes first, and a before b.
		{"1", "NONE", "ZERO", api.ENONE}, {"1", "ZERO", "NONE", api.EZERO}, {"1", "meter", "NONE", api.ENONE}, {"1", "second", "ZERO", api.EZERO}, {"1", "NONE", "second", api.ENONE},
		{"1", "POWERLESS", "NONE", api.EARG}, {"1", "NONE", "POWERLESS", api.ENONE}, {"1", "square-celsius", "NONE", api.EOFFSET}, {"1", "second", "square-celsius", api.EOFFSET},
		{"1", "square-hotter", "square-celsius", api.EDIM}, {"1", "square-celsius", "square-hotter", api.EOFFSET}, {"0", "hertz", "celsius-per-second", api.EOFFSET}, {"0", "second", "NONE", api.ENONE},
	} {
		p := []unit.Part{parts[c.a], parts[c.b]}
		for i, id := range []string{c.a, c.b} {
			if _, ok := parts[id]; !ok {
				p[i] = part(id)
			}
		}
		q, e := conv.From(x, ratOf(c.q), p[0], p[1])
		wants(t, c.q+" "+c.a+" in "+c.b, q, e, "", c.want)
	}
}

// TestWays tries all pairs of some vectors.
func TestWays(t *testing.T) {
	vectors := []dims.V{
		{}, {1}, {-1}, {2}, {0, 1}, {0, -1}, {1, -2}, {-1, 2}, {1, 2}, {0, 0, 0, 0, 0, 0, 0, 1}, {0, 0, 0, 0, 0, 0, 0, -1}, {1, 0, 0, 0, 0, 0, 0, 1}, {-1, 0, 0, 0, 0, 0, 0, 1},
		{100}, {-100}, {101}, {-101}, {1, 101}, {-1, -101}, {math.MaxInt}, {-math.MaxInt}, {math.MinInt}, {1, math.MinInt}, {-1, math.MinInt},
	}
	limit := func(n int) bool { return n >= -100 && n <= 100 }
	for _, a := range vectors {
		for _, b := range vectors {
			equal, opposite := true, true
			for i := range a {
				equal = equal && a[i] == b[i]
				opposite = opposite && limit(a[i]) && limit(b[i]) && a[i] == -b[i]
			}
			want := 0
			if opposite {
				want = -1
			}
			if equal {
				want = 1
			}
			// Nothing but the vectors counts.
			way, ok := conv.Ways(reduce.Sum{V: a, HasOffset: true, Offset: rat.Int(3)}, reduce.Sum{V: b, Factor: rat.Int(-2)})
			if way != want || ok != (want != 0) {
				t.Errorf("Ways(%v, %v): %d, %v, want %d", a, b, way, ok, want)
			}
		}
	}
}

// sum makes one of the texts of its fractions; its offset may be none.
func sum(v dims.V, factor, offset string) reduce.Sum {
	s := reduce.Sum{V: v, Factor: ratOf(factor), HasOffset: offset != ""}
	if s.HasOffset {
		s.Offset = ratOf(offset)
	}
	return s
}

func TestDo(t *testing.T) {
	length, turned, other := dims.V{1}, dims.V{-1}, dims.V{0, 1}
	unused := sum(length, "2", "5")
	unused.HasOffset = false
	turnedUnused := sum(turned, "2", "5")
	turnedUnused.HasOffset = false
	for i, c := range []struct {
		q    string
		a, b reduce.Sum
		want string
		e    api.Errno
	}{
		{"7", sum(length, "2", ""), sum(length, "3", ""), "14/3", 0},
		{"7", sum(length, "2", "5"), sum(length, "3", ""), "19/3", 0},
		{"7", sum(length, "2", ""), sum(length, "3", "5"), "3", 0},
		{"7", sum(length, "2", "-1/2"), sum(length, "3", "1/3"), "79/18", 0},
		{"0", sum(length, "2", "5"), sum(length, "3", "5"), "0", 0},
		{"0", sum(dims.V{}, "2", ""), sum(dims.V{}, "3", ""), "0", 0},
		{"6", sum(dims.V{}, "2", ""), sum(dims.V{}, "3", ""), "4", 0},
		{"6", sum(dims.V{101}, "2", ""), sum(dims.V{101}, "3", ""), "4", 0},
		// An Offset without HasOffset is none.
		{"7", unused, sum(length, "3", ""), "14/3", 0},
		{"7", sum(length, "3", ""), unused, "21/2", 0},
		{"7", unused, turnedUnused, "1/28", 0},
		{"7", sum(length, "2", ""), sum(turned, "3", ""), "1/42", 0},
		{"-7/3", sum(turned, "2", ""), sum(length, "3", ""), "-1/14", 0},
		{"7", sum(length, "2", ""), sum(other, "3", ""), "", api.EDIM},
		{"0", sum(length, "2", "1"), sum(other, "3", "1"), "", api.EDIM},
		{"0", sum(dims.V{101}, "2", ""), sum(dims.V{-101}, "3", ""), "", api.EDIM},
		{"0", sum(dims.V{101}, "2", "1"), sum(dims.V{}, "3", "1"), "", api.EDIM},
		{"0", sum(length, "2", "1"), sum(turned, "3", ""), "", api.EOFFSET},
		{"0", sum(length, "2", ""), sum(turned, "3", "0"), "", api.EOFFSET},
		{"7", sum(length, "2", "0"), sum(turned, "3", "1"), "", api.EOFFSET},
		{"0", sum(length, "2", ""), sum(turned, "3", ""), "", api.EZERO},
		{"0", turnedUnused, unused, "", api.EZERO},
		// No reduction has a Factor of 0, by which nothing can be divided.
		{"7", sum(length, "2", "5"), sum(length, "0", ""), "", api.EZERO},
		{"7", sum(length, "0", ""), sum(length, "2", ""), "0", 0},
		{"7", sum(length, "0", "5"), sum(length, "2", ""), "5/2", 0},
		{"7", sum(length, "0", ""), sum(turned, "2", ""), "", api.EZERO},
		{"7", sum(length, "2", ""), sum(turned, "0", ""), "", api.EZERO},
		{"7", reduce.Sum{}, reduce.Sum{}, "", api.EZERO},
		{"7", reduce.Sum{}, sum(dims.V{}, "2", ""), "0", 0},
		// Factors may have any sign.
		{"7", sum(length, "-2", ""), sum(length, "3", ""), "-14/3", 0},
		{"7", sum(length, "-2", ""), sum(turned, "-3", ""), "1/42", 0},
	} {
		q, e := conv.Do(ratOf(c.q), c.a, c.b)
		wants(t, fmt.Sprint("Do of number ", i), q, e, c.want, c.e)
	}
}

// TestDoOfAnyFraction has fractions that are not valid.
func TestDoOfAnyFraction(t *testing.T) {
	of := func(negative bool, over, under []uint32) rat.Q {
		return rat.Q{P: num.Z{Neg: negative, N: nat.N{L: over}}, Q: nat.N{L: under}}
	}
	half, zeros := of(false, []uint32{6, 0}, []uint32{12, 0, 0}), []rat.Q{{}, of(true, nil, []uint32{3}), of(true, []uint32{5}, nil), of(false, []uint32{5}, []uint32{0})}
	a := reduce.Sum{V: dims.V{1}, Factor: half, Offset: half, HasOffset: true}
	b := reduce.Sum{V: dims.V{1}, Factor: of(true, []uint32{4}, []uint32{2})}
	q, e := conv.Do(half, a, b)
	wants(t, "half", q, e, "-3/8", api.OK)
	a.HasOffset, b.V = false, dims.V{-1}
	q, e = conv.Do(half, a, b)
	wants(t, "half turned over", q, e, "-2", api.OK)
	for i, zero := range zeros {
		q, e = conv.Do(zero, a, b)
		wants(t, fmt.Sprint("turned zero ", i), q, e, "", api.EZERO)
		q, e = conv.Do(zero, a, a)
		wants(t, fmt.Sprint("zero ", i), q, e, "0", api.OK)
	}
}

func TestMixed(t *testing.T) {
	x := loads(t, common)
	for _, c := range []struct{ q, id, want string }{
		{"5 7/2", "foot-and-inch", "127/2"}, {"7/2", "inch", "7/2"}, {"1 2 3", "mile-and-foot-and-inch", "63387"}, {"1 2 3 4", "mile-and-foot-and-inch-and-foot", "21145/4"},
		{"-1 12", "foot-and-inch", "0"}, {"-1 -1", "foot-and-inch", "-13"}, {"12 1", "inch-and-foot", "2"}, {"1 1", "foot-and-foot", "2"}, {"0 0", "hour-and-minute", "0"},
		{"1 30", "hour-and-minute", "90"}, {"1 2", "gallon-and-cubic-inch", "233"}, {"1 2", "percent-and-per-1000", "12"}, {"3 1", "hertz-and-per-minute", "181"},
		{"1 1", "meter-per-second-and-kilometer-per-hour", "23/5"}, {"1/3 1/3", "kelvin-and-millikelvin", "1001/3"},
		// Alone, a part may have an offset.
		{"5", "celsius", "5"}, {"-300", "fahrenheit", "-300"}, {"0", "below", "0"}, {"2/3", "per-7", "2/3"},
	} {
		q, e := conv.Mixed(x, rats(c.q), parses(t, x, c.id))
		wants(t, "Mixed "+c.q+" "+c.id, q, e, c.want, api.OK)
	}
}

// TestMixedErrors has one fault, and several, of which the first one counts.
func TestMixedErrors(t *testing.T) {
	x := loads(t, common)
	for _, c := range []struct {
		q, id string
		want  api.Errno
	}{
		{"", "foot", api.EARG}, {"1 1", "foot", api.EARG}, {"1", "foot-and-inch", api.EARG}, {"1 1 1", "foot-and-inch", api.EARG}, {"", "celsius", api.EARG}, {"", "foot-and-inch", api.EARG},
		{"1 1", "foot-and-second", api.EDIM}, {"0 0", "foot-and-second", api.EDIM}, {"1 1", "second-and-hertz", api.EDIM}, {"1 1", "hertz-and-second", api.EDIM},
		{"1 1 1", "foot-and-second-and-inch", api.EDIM}, {"1 1 1", "foot-and-inch-and-second", api.EDIM}, {"1 1 1", "second-and-inch-and-foot", api.EDIM}, {"1 1", "percent-and-foot", api.EDIM},
		{"1 1", "kelvin-and-celsius", api.EOFFSET}, {"1 1", "celsius-and-kelvin", api.EOFFSET}, {"1 1", "celsius-and-celsius", api.EOFFSET}, {"1 1", "kelvin-and-level", api.EOFFSET},
		{"1 1 1", "kelvin-and-celsius-and-kelvin", api.EOFFSET},
		// The units first, then the number of parts, then the dimensions.
		{"1 1", "square-celsius-and-foot", api.EOFFSET}, {"1", "square-celsius-and-foot", api.EOFFSET}, {"1", "foot-and-square-celsius", api.EOFFSET}, {"", "square-hotter", api.EDIM},
		{"1 1", "square-celsius-and-square-hotter", api.EOFFSET}, {"1 1", "square-hotter-and-square-celsius", api.EDIM}, {"1", "foot-and-second", api.EARG}, {"1", "kelvin-and-celsius", api.EARG},
		{"1 1", "celsius-and-second", api.EDIM}, {"1 1", "second-and-celsius", api.EDIM}, {"1 1 1", "celsius-and-celsius-and-second", api.EDIM}, {"1 1", "celsius-and-per-kelvin", api.EDIM},
	} {
		q, e := conv.Mixed(x, rats(c.q), parses(t, x, c.id))
		wants(t, "Mixed "+c.q+" "+c.id, q, e, "", c.want)
	}
	foot, one := []atom.Atom{plain("foot", 1)}, nat.Of(1)
	good, zero, none := unit.Part{Num: foot, Const: one}, unit.Part{Num: foot}, unit.Part{Num: []atom.Atom{plain("feet", 1)}, Const: one}
	for i, c := range []struct {
		q     string
		parts []unit.Part
		want  api.Errno
	}{
		{"", nil, api.EARG}, {"1", nil, api.EARG}, {"1", []unit.Part{zero}, api.EZERO}, {"1", []unit.Part{none}, api.ENONE}, {"", []unit.Part{zero}, api.EZERO},
		{"1 1", []unit.Part{good, none}, api.ENONE}, {"1 1", []unit.Part{zero, none}, api.EZERO}, {"1", []unit.Part{good, zero}, api.EZERO},
	} {
		q, e := conv.Mixed(x, rats(c.q), unit.Unit{Parts: c.parts})
		wants(t, fmt.Sprint("Mixed of number ", i), q, e, "", c.want)
	}
}

// TestMixedOfManyParts has more parts than any text has room for.
func TestMixedOfManyParts(t *testing.T) {
	x := loads(t, common)
	var u unit.Unit
	var q []rat.Q
	for i := range 200 {
		u.Parts = append(u.Parts, unit.Part{Num: []atom.Atom{plain([]string{"foot", "inch"}[i%2], 1)}, Const: nat.Of(1)})
		q = append(q, rat.Int(int64(i)))
	}
	// 0, 2, .., 198 feet and 1, 3, .., 199 inches.
	r, e := conv.Mixed(x, q, u)
	wants(t, "Mixed of 200 parts", r, e, "128800", api.OK)
}

// bigRat makes a fraction of the library, which tells what results should be.
func bigRat(q rat.Q) *big.Rat {
	r, _ := new(big.Rat).SetString(rat.Text(q))
	return r
}

// wantDo tells what Do should answer for sums whose vectors are valid.
func wantDo(q rat.Q, a, b reduce.Sum) (string, api.Errno) {
	opposite := b.V
	for i := range opposite {
		opposite[i] = -opposite[i]
	}
	r := new(big.Rat).Mul(bigRat(q), bigRat(a.Factor))
	switch {
	case a.V == b.V:
		if a.HasOffset {
			r.Add(r, bigRat(a.Offset))
		}
		if b.HasOffset {
			r.Sub(r, bigRat(b.Offset))
		}
		return r.Quo(r, bigRat(b.Factor)).RatString(), api.OK
	case a.V != opposite:
		return "", api.EDIM
	case a.HasOffset || b.HasOffset:
		return "", api.EOFFSET
	case rat.Sign(q) == 0:
		return "", api.EZERO
	}
	return r.Inv(r.Mul(r, bigRat(b.Factor))).RatString(), api.OK
}

// wantMixed tells what Mixed should answer if nothing is wrong with a part alone.
func wantMixed(q []rat.Q, l []reduce.Sum) (string, api.Errno) {
	if len(q) != len(l) {
		return "", api.EARG
	}
	if slices.ContainsFunc(l, func(s reduce.Sum) bool { return s.V != l[0].V }) {
		return "", api.EDIM
	}
	if len(l) > 1 && slices.ContainsFunc(l, func(s reduce.Sum) bool { return s.HasOffset }) {
		return "", api.EOFFSET
	}
	total := new(big.Rat)
	for i, s := range l {
		text, _ := wantDo(q[i], s, l[len(l)-1])
		amount, _ := new(big.Rat).SetString(text)
		total.Add(total, amount)
	}
	return total.RatString(), api.OK
}

// tried chooses by chance.
type tried struct{ *rand.Rand }

func (r tried) of(l ...string) string { return l[r.Intn(len(l))] }

func (r tried) fraction() rat.Q {
	return ratOf(r.of("0", "1", "-1", "1/3", "-22/7", "100", fmt.Sprintf("%d/%d", r.Int63()-r.Int63(), 1+r.Int63())))
}

func (r tried) part() string {
	return r.of("foot", "inch", "kilometer", "celsius", "fahrenheit", "level", "kelvin", "per-kelvin", "per-7-millikelvin", "square-foot-per-inch", "per-60-foot", "percent", "per-8", "hour", "hertz")
}

// TestAgainstModel tries all calls with units and numbers that are chosen by
// chance.
func TestAgainstModel(t *testing.T) {
	x := loads(t, common)
	r := tried{rand.New(rand.NewSource(13))}
	count, mixed := map[api.Errno]int{}, map[api.Errno]int{}
	for range 6000 {
		id, target, q := r.part(), r.part(), r.fraction()
		a, b := parses(t, x, id).Parts[0], parses(t, x, target).Parts[0]
		from, _ := reduce.Of(x, a)
		to, _ := reduce.Of(x, b)
		want, wantError := wantDo(q, from, to)
		count[wantError]++
		got, e := conv.From(x, q, a, b)
		wants(t, "From "+rat.Text(q)+" "+id+" in "+target, got, e, want, wantError)
		got, e = conv.Do(q, from, to)
		wants(t, "Do "+rat.Text(q)+" "+id+" in "+target, got, e, want, wantError)

		ids, l := []string{id}, []rat.Q{q}
		for range r.Intn(3) {
			ids = append(ids, r.of(id, target, r.part()))
			l = append(l, r.fraction())
		}
		l = l[:len(l)-r.Intn(9)/8]
		u := parses(t, x, strings.Join(ids, "-and-"))
		sums, _ := reduce.Whole(x, u)
		want, wantError = wantMixed(l, sums)
		mixed[wantError]++
		got, e = conv.Mixed(x, l, u)
		wants(t, "Mixed "+strings.Join(ids, " and "), got, e, want, wantError)
	}
	for _, e := range []api.Errno{api.OK, api.EDIM, api.EOFFSET, api.EZERO} {
		if count[e] < 50 {
			t.Errorf("error %d: only %d conversions have it", e, count[e])
		}
	}
	for _, e := range []api.Errno{api.OK, api.EDIM, api.EOFFSET, api.EARG} {
		if mixed[e] < 50 {
			t.Errorf("error %d: only %d mixed units have it", e, mixed[e])
		}
	}
}

// spare returns a list with spare capacity, in which something stands.
func spare[T any](l []T, over T) []T {
	return append(slices.Grow(slices.Clone(l), 3), over, over)[:len(l)]
}

// spareRat returns a fraction whose lists have spare capacity.
func spareRat(s string) rat.Q {
	q := ratOf(s)
	q.P.N.L, q.Q.L = spare(q.P.N.L, 77), spare(q.Q.L, 77)
	return q
}

// lists returns the lists of fractions, with their spare capacity.
func lists(l ...rat.Q) [][]uint32 {
	var all [][]uint32
	for _, q := range l {
		all = append(all, q.P.N.L[:cap(q.P.N.L)], q.Q.L[:cap(q.Q.L)])
	}
	return all
}

// copies returns the same lists in memory of their own.
func copies(l [][]uint32) [][]uint32 {
	var all [][]uint32
	for _, list := range l {
		all = append(all, slices.Clone(list))
	}
	return all
}

// TestMemory writes over every result, and looks that no argument has changed,
// neither by the call nor with its result.
func TestMemory(t *testing.T) {
	x := loads(t, common)
	sumOf := func(v dims.V) reduce.Sum {
		return reduce.Sum{V: v, Factor: spareRat("5/3"), Offset: spareRat("7/2"), HasOffset: v == dims.V{1}}
	}
	kelvin, celsius, per := parses(t, x, "kelvin"), parses(t, x, "celsius"), parses(t, x, "per-kelvin")
	for _, s := range []string{"0", "1", "-4294967296/3", "12345678901234567890123/7"} {
		q, other := spareRat(s), spareRat("11/4")
		list := spare([]rat.Q{q, other}, rat.Int(77))
		a, b, c, d := sumOf(dims.V{1}), sumOf(dims.V{1}), sumOf(dims.V{}), sumOf(dims.V{-2})
		e := sumOf(dims.V{2})
		guarded := lists(append(list[:4:4], a.Factor, a.Offset, b.Factor, b.Offset, c.Factor, c.Offset, d.Factor, d.Offset, e.Factor, e.Offset)...)
		was := copies(guarded)
		for i, call := range []func() (rat.Q, api.Errno){
			func() (rat.Q, api.Errno) { return conv.Do(q, a, b) },
			func() (rat.Q, api.Errno) { return conv.Do(q, a, a) },
			func() (rat.Q, api.Errno) { return conv.Do(q, c, c) },
			func() (rat.Q, api.Errno) { return conv.Do(q, d, e) },
			func() (rat.Q, api.Errno) { return conv.Do(q, a, e) },
			func() (rat.Q, api.Errno) { return conv.From(x, q, kelvin.Parts[0], kelvin.Parts[0]) },
			func() (rat.Q, api.Errno) { return conv.From(x, q, kelvin.Parts[0], celsius.Parts[0]) },
			func() (rat.Q, api.Errno) { return conv.From(x, q, kelvin.Parts[0], per.Parts[0]) },
			func() (rat.Q, api.Errno) { return conv.Mixed(x, list[:1], kelvin) },
			func() (rat.Q, api.Errno) { return conv.Mixed(x, list[:1], celsius) },
			func() (rat.Q, api.Errno) { return conv.Mixed(x, list, parses(t, x, "foot-and-inch")) },
		} {
			first, e := call()
			text := rat.Text(first)
			second, _ := call()
			for _, l := range lists(first) {
				for j := range l {
					l[j] = 99
				}
			}
			if again, f := call(); rat.Text(second) != text || rat.Text(again) != text || e != f {
				t.Errorf("%s, call %d: %s and %s, error %d, want %s, error %d", s, i, rat.Text(second), rat.Text(again), f, text, e)
			}
			if !slices.EqualFunc(guarded, was, slices.Equal) {
				t.Fatalf("%s, call %d: an argument has changed", s, i)
			}
		}
	}
}

// TestUnitsAreKept looks that units are left as they are, spare capacity too.
func TestUnitsAreKept(t *testing.T) {
	x := loads(t, common)
	for _, id := range []string{"mile-and-foot-and-inch", "celsius", "foot-per-60-inch-millisecond", "kelvin-and-celsius"} {
		u := parses(t, x, id)
		for i, p := range u.Parts {
			u.Parts[i] = unit.Part{Num: spare(p.Num, plain("spare", 7)), Den: spare(p.Den, plain("spare", 7)), Const: nat.N{L: spare(p.Const.L, 77)}}
		}
		u.Parts = spare(u.Parts, unit.Part{Num: []atom.Atom{plain("spare", 7)}})
		was := shown(u)
		conv.Mixed(x, slices.Repeat([]rat.Q{rat.Int(7)}, len(u.Parts)), u)
		conv.From(x, rat.Int(7), u.Parts[0], u.Parts[0])
		if shown(u) != was {
			t.Errorf("%s has changed: %s, was %s", id, shown(u), was)
		}
	}
}

// shown tells a unit with its spare capacity.
func shown(u unit.Unit) string {
	var all strings.Builder
	for _, p := range u.Parts[:cap(u.Parts)] {
		all.WriteString(fmt.Sprint(p.Num[:cap(p.Num)], p.Den[:cap(p.Den)], p.Const.L[:cap(p.Const.L)], "\n"))
	}
	return all.String()
}

package reduce_test

import (
	"fmt"
	"math"
	"math/big"
	"math/rand"
	"reflect"
	"slices"
	"strings"
	"testing"

	"cubit/api"
	"cubit/atom"
	"cubit/dims"
	"cubit/nat"
	"cubit/num"
	"cubit/rat"
	"cubit/reduce"
	"cubit/rows"
	"cubit/table"
	"cubit/unit"
)

// common is the table of most of the tests.
const common = `base meter length
base second duration
base kelvin temperature
prefix kilo 10 3
prefix milli 10 -3
prefix kibi 2 10
prefix same 10 0
unit foot 381/1250 meter
unit inch 1/12 foot
unit mile 5280 foot
unit liter 1 cubic-meter-per-1000
unit knot 463/900 meter-per-second
unit celsius 1 kelvin 5463/20
unit fahrenheit 5/9 kelvin 45967/180
unit level 3 kelvin 0
unit below 1 kelvin -7/21
unit percent 1 per-100
unit pace 5/2 kilofoot-per-square-millisecond-inch
unit hot 1 pow15-kelvin
unit hotter 1 pow6-hot-pow10-kelvin
unit cold 1 per-hotter
alias metre meter
`

// rowsOf returns the rows of a text, which may be more than rows.Parse accepts.
func rowsOf(text string) []rows.Row {
	var l []rows.Row
	for i, line := range strings.Split(text, "\n") {
		if w := strings.Fields(line); len(w) > 0 {
			l = append(l, rows.Row{Line: i + 1, W: w})
		}
	}
	return l
}

// loads returns the table of a text, which must be valid.
func loads(t *testing.T, text string) *table.Table {
	t.Helper()
	x, line, e := table.Load(rowsOf(text))
	if e != api.OK {
		t.Fatalf("Load: line %d, error %d", line, e)
	}
	return x
}

// parses returns the unit that id writes, which must be one.
func parses(t *testing.T, x *table.Table, id string) unit.Unit {
	t.Helper()
	u, e := x.Parse(id)
	if e != api.OK {
		t.Fatalf("Parse(%s): error %d", id, e)
	}
	return u
}

// plain returns an atom without prefix.
func plain(name string, power int) atom.Atom {
	return atom.Atom{Name: name, Power: power}
}

// list returns atoms without prefix, each to the power of 1.
func list(names ...string) []atom.Atom {
	var l []atom.Atom
	for _, name := range names {
		l = append(l, plain(name, 1))
	}
	return l
}

// sumText tells a sum whole.
func sumText(s reduce.Sum) string {
	return fmt.Sprintf("%s: %s + %s %v", dims.Text(s.V), rat.Text(s.Factor), rat.Text(s.Offset), s.HasOffset)
}

func measureText(x measure) string {
	return fmt.Sprintf("%s: %s + %s %v", dims.Text(x.vec), x.factor.RatString(), x.offset.RatString(), x.hasOffset)
}

// isNothing reports whether s is what stands beside an error.
func isNothing(s reduce.Sum) bool {
	return s.V == dims.V{} && rat.Sign(s.Factor) == 0 && rat.Sign(s.Offset) == 0 && !s.HasOffset
}

// isGood reports whether the fractions of s are valid.
func isGood(s reduce.Sum) bool {
	return rat.Good(s.Factor) && rat.Good(s.Offset)
}

// wants fails the test unless a sum is what is wanted, beside no error, or
// nothing beside the error that is wanted.
func wants(t *testing.T, what string, s reduce.Sum, e api.Errno, want string, wantError api.Errno) {
	t.Helper()
	switch {
	case e != wantError:
		t.Errorf("%s: error %d, want %d", what, e, wantError)
	case e != api.OK && !isNothing(s):
		t.Errorf("%s: %v beside error %d", what, s, e)
	case e == api.OK && (sumText(s) != want || !isGood(s)):
		t.Errorf("%s: %s, want %s", what, sumText(s), want)
	}
}

// sums has ids and what they are in base units.
func sums() map[string]string {
	return map[string]string{
		"meter": "1,0,0,0,0,0,0,0: 1 + 0 false", "second": "0,1,0,0,0,0,0,0: 1 + 0 false", "kelvin": "0,0,1,0,0,0,0,0: 1 + 0 false",
		"kilometer": "1,0,0,0,0,0,0,0: 1000 + 0 false", "millimeter": "1,0,0,0,0,0,0,0: 1/1000 + 0 false", "kibimeter": "1,0,0,0,0,0,0,0: 1024 + 0 false",
		"samemeter": "1,0,0,0,0,0,0,0: 1 + 0 false", "square-kilometer": "2,0,0,0,0,0,0,0: 1000000 + 0 false", "pow15-meter": "15,0,0,0,0,0,0,0: 1 + 0 false",
		"foot": "1,0,0,0,0,0,0,0: 381/1250 + 0 false", "inch": "1,0,0,0,0,0,0,0: 127/5000 + 0 false", "mile": "1,0,0,0,0,0,0,0: 201168/125 + 0 false",
		"kilofoot": "1,0,0,0,0,0,0,0: 1524/5 + 0 false", "cubic-milliinch": "3,0,0,0,0,0,0,0: 2048383/125000000000000000000 + 0 false",
		"liter": "3,0,0,0,0,0,0,0: 1/1000 + 0 false", "square-liter": "6,0,0,0,0,0,0,0: 1/1000000 + 0 false", "kiloliter": "3,0,0,0,0,0,0,0: 1 + 0 false",
		"knot": "1,-1,0,0,0,0,0,0: 463/900 + 0 false", "square-knot": "2,-2,0,0,0,0,0,0: 214369/810000 + 0 false", "per-knot": "-1,1,0,0,0,0,0,0: 900/463 + 0 false",
		"celsius": "0,0,1,0,0,0,0,0: 1 + 5463/20 true", "fahrenheit": "0,0,1,0,0,0,0,0: 5/9 + 45967/180 true",
		"level": "0,0,1,0,0,0,0,0: 3 + 0 true", "below": "0,0,1,0,0,0,0,0: 1 + -1/3 true",
		"percent": "0,0,0,0,0,0,0,0: 1/100 + 0 false", "per-percent": "0,0,0,0,0,0,0,0: 100 + 0 false", "cubic-kilopercent": "0,0,0,0,0,0,0,0: 1000 + 0 false",
		"per-100": "0,0,0,0,0,0,0,0: 1/100 + 0 false", "per-18446744073709551616": "0,0,0,0,0,0,0,0: 1/18446744073709551616 + 0 false",
		"per-second": "0,-1,0,0,0,0,0,0: 1 + 0 false", "per-millisecond": "0,-1,0,0,0,0,0,0: 1000 + 0 false", "per-60-second": "0,-1,0,0,0,0,0,0: 1/60 + 0 false",
		"mile-per-3600-second": "1,-1,0,0,0,0,0,0: 1397/3125 + 0 false", "liter-per-100-kilometer": "2,0,0,0,0,0,0,0: 1/100000000 + 0 false",
		"foot-per-inch": "0,0,0,0,0,0,0,0: 12 + 0 false", "meter-per-meter": "0,0,0,0,0,0,0,0: 1 + 0 false", "square-foot-inch-per-cubic-inch": "0,0,0,0,0,0,0,0: 144 + 0 false",
		"inch-inch": "2,0,0,0,0,0,0,0: 16129/25000000 + 0 false", "foot-kilosecond-per-inch-millisecond": "0,0,0,0,0,0,0,0: 12000000 + 0 false",
		"pace": "0,-2,0,0,0,0,0,0: 30000000000 + 0 false", "kelvin-per-100": "0,0,1,0,0,0,0,0: 1/100 + 0 false", "metre": "1,0,0,0,0,0,0,0: 1 + 0 false",
	}
}

func TestOf(t *testing.T) {
	x := loads(t, common)
	for id, want := range sums() {
		s, e := reduce.Of(x, parses(t, x, id).Parts[0])
		wants(t, "Of "+id, s, e, want, api.OK)
	}
}

func TestAtom(t *testing.T) {
	x := loads(t, common)
	tried := 0
	for id, want := range sums() {
		p := parses(t, x, id).Parts[0]
		if len(p.Num) != 1 || len(p.Den) != 0 || nat.Text(p.Const) != "1" {
			continue
		}
		tried++
		s, e := reduce.Atom(x, p.Num[0])
		wants(t, "Atom "+id, s, e, want, api.OK)
	}
	if tried < 20 {
		t.Errorf("only %d atoms", tried)
	}
}

// TestAtomsThatAreWrong has atoms with one fault, and with several, of which the
// first one counts.
func TestAtomsThatAreWrong(t *testing.T) {
	x := loads(t, common)
	for _, c := range []struct {
		a    atom.Atom
		want api.Errno
	}{
		{atom.Atom{}, api.ENONE},
		{plain("", 1), api.ENONE},
		{plain("metre", 1), api.ENONE},
		{plain("kilometer", 1), api.ENONE},
		{plain("kilo", 1), api.ENONE},
		{plain("Meter", 1), api.ENONE},
		{plain("length", 1), api.ENONE},
		{atom.Atom{Prefix: "giga", Name: "meter", Power: 1}, api.ENONE},
		{atom.Atom{Prefix: "meter", Name: "meter", Power: 1}, api.ENONE},
		{atom.Atom{Prefix: "kilo", Name: "kilo", Power: 1}, api.ENONE},
		{atom.Atom{Prefix: "kilo", Power: 1}, api.ENONE},
		{atom.Atom{Prefix: "giga", Name: "meter", Power: 16}, api.ENONE},
		{atom.Atom{Prefix: "giga", Name: "celsius", Power: 2}, api.ENONE},
		{atom.Atom{Prefix: "giga", Name: "hotter", Power: 2}, api.ENONE},
		{plain("nothing", 0), api.ENONE},
		{plain("meter", 0), api.EARG},
		{plain("meter", -1), api.EARG},
		{plain("meter", 16), api.EARG},
		{plain("meter", math.MaxInt), api.EARG},
		{plain("meter", math.MinInt), api.EARG},
		{plain("percent", 16), api.EARG},
		{plain("celsius", 0), api.EARG},
		{plain("celsius", 16), api.EARG},
		{plain("hotter", 16), api.EARG},
		{atom.Atom{Prefix: "kilo", Name: "meter", Power: 16}, api.EARG},
		{atom.Atom{Prefix: "kilo", Name: "celsius", Power: -1}, api.EARG},
		{atom.Atom{Prefix: "kilo", Name: "celsius", Power: 1}, api.EOFFSET},
		{atom.Atom{Prefix: "same", Name: "celsius", Power: 1}, api.EOFFSET},
		{atom.Atom{Prefix: "kilo", Name: "celsius", Power: 2}, api.EOFFSET},
		{plain("celsius", 2), api.EOFFSET},
		{plain("celsius", 15), api.EOFFSET},
		{plain("level", 2), api.EOFFSET},
		{plain("hot", 7), api.EDIM},
		{plain("hotter", 2), api.EDIM},
		{plain("cold", 15), api.EDIM},
		{atom.Atom{Prefix: "kilo", Name: "cold", Power: 2}, api.EDIM},
		{plain("hot", 6), api.OK},
		{plain("hotter", 1), api.OK},
		{plain("cold", 1), api.OK},
		{plain("meter", 15), api.OK},
		{plain("percent", 15), api.OK},
	} {
		s, e := reduce.Atom(x, c.a)
		wants(t, fmt.Sprintf("Atom %v", c.a), s, e, sumText(s), c.want)
		// Alone in a part, an atom has the same error.
		s, e = reduce.Of(x, unit.Part{Num: []atom.Atom{c.a}, Const: nat.Of(1)})
		wants(t, fmt.Sprintf("Of %v", c.a), s, e, sumText(s), c.want)
		// Under the line it has it too, ahead of EOFFSET.
		s, e = reduce.Of(x, unit.Part{Den: []atom.Atom{c.a}, Const: nat.Of(1)})
		wants(t, fmt.Sprintf("Of per %v", c.a), s, e, sumText(s), c.want)
	}
}

// TestPartsThatAreWrong has parts with one fault, and with several, of which the
// first one counts.
func TestPartsThatAreWrong(t *testing.T) {
	x := loads(t, common)
	one, none := nat.Of(1), nat.Of(0)
	for i, c := range []struct {
		num, den []atom.Atom
		number   nat.N
		want     api.Errno
	}{
		{nil, nil, none, api.EZERO},
		{list("meter"), nil, none, api.EZERO},
		{nil, list("meter"), none, api.EZERO},
		{list("meter"), nil, nat.N{L: []uint32{0, 0}}, api.EZERO},
		// An offset, beside anything else.
		{list("celsius", "meter"), nil, one, api.EOFFSET},
		{list("meter", "celsius"), nil, one, api.EOFFSET},
		{list("celsius", "celsius"), nil, one, api.EOFFSET},
		{list("celsius"), list("meter"), one, api.EOFFSET},
		{list("meter"), list("celsius"), one, api.EOFFSET},
		{list("celsius"), list("celsius"), one, api.EOFFSET},
		{nil, list("celsius"), one, api.EOFFSET},
		{nil, list("level"), one, api.EOFFSET},
		{list("celsius"), nil, nat.Of(2), api.EOFFSET},
		{list("celsius"), nil, nat.Of(1<<32 + 1), api.EOFFSET},
		{list("celsius"), nil, none, api.EOFFSET},
		{list("level"), nil, nat.Of(100), api.EOFFSET},
		{list("celsius"), nil, nat.N{L: []uint32{1, 0, 0}}, api.OK},
		// Atom by atom, and each one whole before the next one.
		{list("celsius", "nothing"), nil, one, api.EOFFSET},
		{list("nothing", "celsius"), nil, one, api.ENONE},
		{list("celsius"), list("nothing"), one, api.EOFFSET},
		{list("nothing"), list("celsius"), one, api.ENONE},
		{list("meter"), list("nothing", "celsius"), one, api.ENONE},
		{list("meter"), list("celsius", "nothing"), one, api.EOFFSET},
		{[]atom.Atom{plain("celsius", 2), plain("nothing", 1)}, nil, one, api.EOFFSET},
		{[]atom.Atom{plain("celsius", 0), plain("nothing", 1)}, nil, one, api.EARG},
		{[]atom.Atom{plain("meter", 1), plain("meter", 0), plain("nothing", 1)}, nil, one, api.EARG},
		{list("hotter", "kelvin", "nothing"), nil, one, api.EDIM},
		{list("hotter", "nothing", "kelvin"), nil, one, api.ENONE},
		{list("hotter", "kelvin"), list("kelvin", "nothing"), one, api.EDIM},
		{list("hotter"), list("kelvin", "nothing"), one, api.ENONE},
		// The offset comes ahead of the sum.
		{list("hotter", "celsius"), nil, one, api.EOFFSET},
		{list("cold"), list("celsius"), one, api.EOFFSET},
		{list("hotter", "kelvin", "celsius"), nil, one, api.EDIM},
		// The sum is looked at after each atom.
		{list("hotter", "kelvin"), list("kelvin"), one, api.EDIM},
		{list("kelvin", "hotter"), list("hotter"), one, api.EDIM},
		{list("hotter", "hotter", "cold"), nil, one, api.EDIM},
		{list("hotter", "cold", "hotter"), nil, one, api.OK},
		{nil, list("hotter", "kelvin", "cold"), one, api.EDIM},
		{nil, list("hotter", "cold", "kelvin"), one, api.OK},
		{list("kelvin"), list("kelvin", "hotter"), one, api.OK},
		{list("cold", "kelvin"), list("kelvin", "meter"), one, api.OK},
		{list("cold"), list("kelvin"), one, api.EDIM},
		{nil, list("cold", "kelvin"), one, api.OK},
		{list("hotter"), list("cold"), one, api.EDIM},
		// A Const of 0 comes last.
		{list("nothing"), nil, none, api.ENONE},
		{nil, list("nothing"), none, api.ENONE},
		{[]atom.Atom{plain("meter", 16)}, nil, none, api.EARG},
		{list("hotter", "kelvin"), nil, none, api.EDIM},
		{nil, list("hotter", "kelvin"), none, api.EDIM},
		{list("meter"), list("celsius"), none, api.EOFFSET},
	} {
		s, e := reduce.Of(x, unit.Part{Num: c.num, Den: c.den, Const: c.number})
		wants(t, fmt.Sprintf("Of number %d", i), s, e, sumText(s), c.want)
	}
}

// TestPartsWithoutAtoms has numbers alone, also such that are not valid.
func TestPartsWithoutAtoms(t *testing.T) {
	x := loads(t, common)
	long := nat.Pow(nat.Of(10), 300)
	for want, number := range map[string]nat.N{
		"1": nat.Of(1), "1/8": nat.Of(8), "1/4294967296": nat.Of(1 << 32), "1/1" + strings.Repeat("0", 300): long,
		"1/7": {L: []uint32{7, 0, 0}}, "1/4294967297": {L: []uint32{1, 1, 0}},
	} {
		for _, x := range []*table.Table{x, loads(t, "")} {
			s, e := reduce.Of(x, unit.Part{Const: number})
			wants(t, "Of "+want, s, e, "0,0,0,0,0,0,0,0: "+want+" + 0 false", api.OK)
		}
	}
}

// TestPartsOfAnyLength has more atoms than any text has room for.
func TestPartsOfAnyLength(t *testing.T) {
	x := loads(t, common)
	for _, c := range []struct {
		num, den []atom.Atom
		want     string
		e        api.Errno
	}{
		{slices.Repeat(list("meter"), 100), nil, "100,0,0,0,0,0,0,0: 1 + 0 false", api.OK},
		{slices.Repeat(list("meter"), 101), nil, "", api.EDIM},
		{nil, slices.Repeat(list("meter"), 100), "-100,0,0,0,0,0,0,0: 1 + 0 false", api.OK},
		{nil, slices.Repeat(list("meter"), 101), "", api.EDIM},
		{slices.Repeat(list("foot"), 100), slices.Repeat(list("inch"), 100), "0,0,0,0,0,0,0,0: " + powerOf(ratOf("12"), 100).RatString() + " + 0 false", api.OK},
		{slices.Repeat(list("percent"), 500), nil, "0,0,0,0,0,0,0,0: 1/1" + strings.Repeat("0", 1000) + " + 0 false", api.OK},
		{slices.Repeat(list("percent"), 2000), slices.Repeat(list("percent"), 2001), "0,0,0,0,0,0,0,0: 100 + 0 false", api.OK},
		{append(slices.Repeat(list("percent"), 2000), plain("nothing", 1)), nil, "", api.ENONE},
	} {
		s, e := reduce.Of(x, unit.Part{Num: c.num, Den: c.den, Const: nat.Of(1)})
		wants(t, fmt.Sprintf("Of %d and %d atoms", len(c.num), len(c.den)), s, e, c.want, c.e)
	}
}

func TestWhole(t *testing.T) {
	x := loads(t, common)
	want := sums()
	for _, id := range []string{
		"meter", "celsius", "per-100", "foot-and-inch", "mile-and-foot-and-inch-and-millimeter", "celsius-and-kelvin", "celsius-and-celsius",
		"meter-and-second", "inch-inch-and-per-knot-and-percent",
	} {
		parts := strings.Split(id, "-and-")
		l, e := reduce.Whole(x, parses(t, x, id))
		if e != api.OK || len(l) != len(parts) {
			t.Errorf("Whole(%s): %d sums, error %d", id, len(l), e)
			continue
		}
		for i, s := range l {
			wants(t, id, s, api.OK, want[parts[i]], api.OK)
		}
	}
	var u unit.Unit
	for range 50 {
		u.Parts = append(u.Parts, unit.Part{Num: list("foot"), Const: nat.Of(1)}, unit.Part{Const: nat.Of(7)})
	}
	if l, e := reduce.Whole(x, u); e != api.OK || len(l) != 100 || rat.Text(l[98].Factor) != "381/1250" || rat.Text(l[99].Factor) != "1/7" {
		t.Errorf("Whole of 100 parts: %v, error %d", l, e)
	}
}

func TestWholesThatAreWrong(t *testing.T) {
	x := loads(t, common)
	for id, want := range map[string]api.Errno{
		"square-celsius": api.EOFFSET, "hotter-kelvin": api.EDIM, "foot-and-square-celsius": api.EOFFSET, "foot-and-hotter-kelvin": api.EDIM,
		"square-celsius-and-hotter-kelvin": api.EOFFSET, "hotter-kelvin-and-square-celsius": api.EDIM, "foot-and-inch-and-meter-and-per-celsius": api.EOFFSET,
		"foot-and-square-hotter-and-inch-and-per-celsius": api.EDIM,
	} {
		if l, e := reduce.Whole(x, parses(t, x, id)); e != want || len(l) != 0 {
			t.Errorf("Whole(%s): %v, error %d, want %d", id, l, e, want)
		}
	}
	good, zero := unit.Part{Num: list("meter"), Const: nat.Of(1)}, unit.Part{Num: list("meter")}
	none, power := unit.Part{Num: list("nothing")}, unit.Part{Num: []atom.Atom{plain("meter", 16)}}
	for i, c := range []struct {
		parts []unit.Part
		want  api.Errno
	}{
		{nil, api.EARG}, {[]unit.Part{}, api.EARG}, {make([]unit.Part, 0, 4), api.EARG}, {[]unit.Part{{}}, api.EZERO}, {[]unit.Part{good, {}}, api.EZERO},
		{[]unit.Part{zero}, api.EZERO}, {[]unit.Part{good, zero, none}, api.EZERO}, {[]unit.Part{good, none, zero}, api.ENONE},
		{[]unit.Part{power, none}, api.EARG}, {[]unit.Part{none, power}, api.ENONE}, {[]unit.Part{good, good, good, good, good, none}, api.ENONE},
	} {
		if l, e := reduce.Whole(x, unit.Unit{Parts: c.parts}); e != c.want || len(l) != 0 {
			t.Errorf("Whole of number %d: %v, error %d, want %d", i, l, e, c.want)
		}
	}
}

// TestEmptyTable looks at a table in which there is nothing.
func TestEmptyTable(t *testing.T) {
	x := loads(t, "")
	s, e := reduce.Atom(x, plain("meter", 1))
	wants(t, "Atom", s, e, "", api.ENONE)
	s, e = reduce.Of(x, unit.Part{Num: list("meter"), Const: nat.Of(1)})
	wants(t, "Of", s, e, "", api.ENONE)
}

// factorIs fails the test unless a name alone has that dimension and factor.
func factorIs(t *testing.T, x *table.Table, name string, v dims.V, want string) {
	t.Helper()
	s, e := reduce.Atom(x, plain(name, 1))
	wants(t, "Atom "+name, s, e, dims.Text(v)+": "+want+" + 0 false", api.OK)
}

// TestLaterNames looks that an ID is what it was when it was defined, although a
// later name or an alias is spelled like a prefix and a name in it.
func TestLaterNames(t *testing.T) {
	x := loads(t, "base meter length\nbase second duration\nprefix kilo 10 3\nprefix milli 10 -3\nunit far 7 kilometer\n"+
		"unit kilometer 1 second\nunit near 1 kilometer\nunit small 3 square-millisecond\nalias millisecond meter\nunit less 1/2 small")
	for _, c := range []struct {
		name, want string
		v          dims.V
	}{
		{"far", "7000", dims.V{1}}, {"kilometer", "1", dims.V{0, 1}}, {"near", "1", dims.V{0, 1}},
		{"small", "3/1000000", dims.V{0, 2}}, {"less", "3/2000000", dims.V{0, 2}},
	} {
		factorIs(t, x, c.name, c.v, c.want)
	}
	// An atom says itself what is its prefix.
	s, e := reduce.Atom(x, atom.Atom{Prefix: "kilo", Name: "meter", Power: 1})
	wants(t, "kilo and meter", s, e, "1,0,0,0,0,0,0,0: 1000 + 0 false", api.OK)
	// A base, too, may be spelled like what was there.
	x = loads(t, "base b length\nprefix k 10 3\nunit x 2 kb\nbase kb mass\nunit y 3 kb\nunit kkb 5 x-y-kb")
	for name, want := range map[string]string{"x": "2000", "y": "3", "kb": "1", "kkb": "30000"} {
		v, _ := x.Vec(unit.Part{Num: list(name)})
		factorIs(t, x, name, v, want)
	}
}

// TestLaterPrefixes looks that prefixes may come after the names and IDs that
// they go with.
func TestLaterPrefixes(t *testing.T) {
	x := loads(t, "base meter length\nunit far 7 meter\nprefix m 10 1\nprefix kilo 10 3\nunit farther 2 kilofar\nprefix k 10 2\nprefix f 10 4\nprefix fa 10 5")
	factorIs(t, x, "far", dims.V{1}, "7")
	factorIs(t, x, "farther", dims.V{1}, "14000")
	s, e := reduce.Of(x, parses(t, x, "square-kfar-per-fafarther").Parts[0])
	wants(t, "Of", s, e, "1,0,0,0,0,0,0,0: 7/20000 + 0 false", api.OK)
}

// TestLaterPrefixesThatAreLonger looks that an ID is what it was when it was
// defined, although a later prefix, of which there may be several, would be the
// longest one in it.
func TestLaterPrefixesThatAreLonger(t *testing.T) {
	const rows = "base a length\nbase b time\nprefix k 10 3\nunit ka 7 a\nunit kb 11 a\nunit x 1 kka\nunit y 1 kkb\nunit z 1/2 square-x-per-100-kka\n"
	for _, later := range []string{"", "prefix kk 10 1\n", "prefix kk 10 1\nprefix kkk 2 5\n", "prefix kk 2 -1\nunit kka 3 b\nunit kkb 3 b\n"} {
		x := loads(t, rows+later+"unit w 2 kx-per-y")
		factorIs(t, x, "x", dims.V{1}, "7000")
		factorIs(t, x, "y", dims.V{1}, "11000")
		factorIs(t, x, "z", dims.V{1}, "35")
		factorIs(t, x, "w", dims.V{}, "14000/11")
		s, e := reduce.Of(x, parses(t, x, "kx-per-square-y").Parts[0])
		wants(t, "Of", s, e, "-1,0,0,0,0,0,0,0: 7/121 + 0 false", api.OK)
	}
	// Ahead of the row it is the one.
	x := loads(t, "base a length\nbase b time\nprefix k 10 3\nunit ka 7 a\nunit kb 11 a\nprefix kk 10 1\nunit x 1 kka\nunit y 1 kkb")
	factorIs(t, x, "x", dims.V{1}, "10")
	factorIs(t, x, "y", dims.V{0, 1}, "10")
}

// TestNamesInARing has units whose IDs, read with all names, would rest on one
// another without end.
func TestNamesInARing(t *testing.T) {
	x := loads(t, "base a length\nprefix k 10 3\nunit b 2 ka\nunit ka 3 b\nunit kkb 5 kb-ka\nunit kb 7 kkb")
	for _, c := range []struct {
		name, want string
		power      int
	}{{"b", "2000", 1}, {"ka", "6000", 1}, {"kkb", "60000000000", 2}, {"kb", "420000000000", 2}} {
		factorIs(t, x, c.name, dims.V{c.power}, c.want)
	}
	x = loads(t, "base a length\nprefix k 10 3\nunit c 2 ka\nunit ka 3 ka")
	factorIs(t, x, "c", dims.V{1}, "2000")
	factorIs(t, x, "ka", dims.V{1}, "3000")
}

// TestLongestPrefix looks that an ID is read with the longest prefix.
func TestLongestPrefix(t *testing.T) {
	x := loads(t, "base b length\nbase kb mass\nprefix k 10 1\nprefix kk 10 2\nprefix kkk 10 3\nunit x 1 kkb\nunit y 1 kkkkb\nunit z 1 kb")
	factorIs(t, x, "x", dims.V{1}, "100")
	factorIs(t, x, "y", dims.V{0, 1}, "1000")
	factorIs(t, x, "z", dims.V{0, 1}, "1")
}

// TestManyRowsDeep has units each of which rests on the one before, once or
// several times, so that there are very many ways down.
func TestManyRowsDeep(t *testing.T) {
	const count = 1500
	for id, want := range map[string]*big.Rat{
		"%s": big.NewRat(3, 4), "%s-%s-per-%s": big.NewRat(3, 4), "square-%s-cubic-%s-per-pow4-%s": big.NewRat(3, 4),
		"per-%s": big.NewRat(4, 3), "%s-%s-per-cubic-%s": big.NewRat(4, 3), "%s-per-%s": big.NewRat(1, 1),
	} {
		text := "unit u0 3 per-4\n"
		for i := range count {
			text += fmt.Sprintf("unit u%d 1 %s\n", i+1, strings.ReplaceAll(id, "%s", fmt.Sprint("u", i)))
		}
		x := loads(t, text)
		name := fmt.Sprint("u", count-1)
		// An odd number of turns over.
		factorIs(t, x, name, dims.V{}, want.RatString())
	}
}

// TestLongFactors looks that factors that are very long on the way, and cancel,
// don't take long.
func TestLongFactors(t *testing.T) {
	text := "base m length\n"
	for i := range 4 {
		n := strings.Repeat(fmt.Sprintf("%d73", i+1), 16)
		text += fmt.Sprintf("unit c%d %s1/%s7 per-2\nunit a%d %s3/%s9 c%d\n", i, n, n, i, n, n, i)
	}
	rest := "pow15-a1-pow15-a2-pow15-a3-per-pow15-a1-pow15-a2-pow15-a3"
	text += "unit x0 3/7 m\n"
	for i := range 1000 {
		text += fmt.Sprintf("unit x%d 1 x%d-%s\n", i+1, i, rest)
	}
	x := loads(t, text)
	factorIs(t, x, "x1000", dims.V{1}, "3/7")
	s, e := reduce.Of(x, parses(t, x, rest).Parts[0])
	wants(t, "Of "+rest, s, e, "0,0,0,0,0,0,0,0: 1 + 0 false", api.OK)
}

// TestLongResults has results that are as long as the table allows, and longer.
func TestLongResults(t *testing.T) {
	over, under := strings.Repeat("7", 50), "1"+strings.Repeat("0", 48)
	x := loads(t, "base m length\nprefix k 10 30\nunit a "+over+"/"+under+" m\nunit b "+over+"/"+under+" a")
	square := powerOf(ratOf(over+"/"+under), 2)
	factorIs(t, x, "b", dims.V{1}, square.RatString())
	for id, want := range map[string]*big.Rat{
		"pow15-b": powerOf(square, 15), "per-pow15-b": powerOf(square, -15), "pow15-kb-pow15-a": powerOf(ratOf(over+"/"+under), 45).Mul(powerOf(ratOf(over+"/"+under), 45), powerOf(ratOf("10"), 450)),
	} {
		s, e := reduce.Of(x, parses(t, x, id).Parts[0])
		if e != api.OK || rat.Text(s.Factor) != want.RatString() || !isGood(s) {
			t.Errorf("Of(%s): error %d, %s", id, e, rat.Text(s.Factor))
		}
	}
}

// words are the names that are tried. Some are also a prefix and a name.
var words = []string{"a", "b", "c", "d", "e", "f", "g", "h", "ka", "kb", "kc", "kka", "la", "lb", "kkc", "x"}

// tried chooses among words.
type tried struct{ *rand.Rand }

func (r tried) of(l ...string) string { return l[r.Intn(len(l))] }

func (r tried) id() string {
	var l []string
	for range 1 + r.Intn(4) {
		l = append(l, r.of("", "", "", "square-", "pow5-", "pow15-")+r.of("", "", "", "k", "l", "kk")+r.of(words...))
	}
	if r.Intn(3) == 0 {
		return strings.Join(l, "-per-")
	}
	return r.of("", "", "per-", "per-60-") + strings.Join(l, "-")
}

func (r tried) row() []string {
	name, factor := r.of(words...), r.of("1", "2", "1/2", "3/7", "10/4", "1000000007")
	switch r.Intn(9) {
	case 0:
		return []string{"base", name, "q" + name}
	case 3:
		return []string{"prefix", r.of("l", "kk", "kkk", "lk", "kl"), r.of("2", "10"), r.of("-2", "3")}
	case 1:
		return []string{"unit", name, factor, r.of("a", "a", r.of(words...)), r.of("1/3", "-5/2", "0")}
	case 2:
		return []string{"alias", name, r.id()}
	}
	return []string{"unit", name, factor, r.id()}
}

// table makes rows until there are enough that are right, and a model of them.
func (r tried) table() (*table.Table, *model) {
	l, m := []rows.Row{{W: []string{"base", "a", "length"}}, {W: []string{"prefix", "k", "10", "3"}}}, newModel()
	for _, row := range l {
		m.add(row.W)
	}
	x, _, _ := table.Load(l)
	for range 80 {
		next := append(slices.Clone(l), rows.Row{W: r.row()})
		if y, _, e := table.Load(next); e == api.OK {
			m.add(next[len(l)].W)
			x, l = y, next
		}
	}
	return x, m
}

func (r tried) atom() atom.Atom {
	power := 1 + r.Intn(4)
	if r.Intn(4) == 0 {
		power = r.Intn(19) - 1
	}
	a := atom.Atom{Name: r.of(words...), Power: power}
	if r.Intn(3) == 0 {
		a.Prefix = r.of("k", "l", "kk", "k", "l", "kk", "lk", "o")
	}
	return a
}

func (r tried) part() unit.Part {
	numbers := []nat.N{nat.Of(0), nat.Of(7), nat.Of(1 << 40), {L: []uint32{1, 0}}, {L: []uint32{0}}, {L: []uint32{6, 0}}}
	p := unit.Part{Const: nat.Of(1)}
	if r.Intn(4) == 0 {
		p.Const = numbers[r.Intn(len(numbers))]
	}
	for range r.Intn(4) {
		p.Num = append(p.Num, r.atom())
	}
	for range max(0, r.Intn(5)-2) {
		p.Den = append(p.Den, r.atom())
	}
	return p
}

// compare fails the test unless a sum and its error are those of the model.
func compare(t *testing.T, what any, s reduce.Sum, e api.Errno, x measure, want api.Errno) {
	t.Helper()
	switch {
	case e != want:
		t.Fatalf("%v: error %d, want %d", what, e, want)
	case e != api.OK && !isNothing(s):
		t.Fatalf("%v: %v beside error %d", what, s, e)
	case e == api.OK && (sumText(s) != measureText(x) || !isGood(s)):
		t.Fatalf("%v: %s, want %s", what, sumText(s), measureText(x))
	}
}

// compareWhole does so for a unit of several parts.
func compareWhole(t *testing.T, x *table.Table, m *model, u unit.Unit) {
	t.Helper()
	var wants []measure
	wantError := api.OK
	for _, p := range u.Parts {
		want, e := m.of(p)
		if e != api.OK {
			wants, wantError = nil, e
			break
		}
		wants = append(wants, want)
	}
	l, e := reduce.Whole(x, u)
	if e != wantError || len(l) != len(wants) {
		t.Fatalf("Whole(%v): %d sums, error %d, want %d sums, error %d", u, len(l), e, len(wants), wantError)
	}
	for i, want := range wants {
		compare(t, u, l[i], e, want, api.OK)
	}
}

// TestAgainstModel tries atoms, parts and units of tables that are made by
// chance.
func TestAgainstModel(t *testing.T) {
	r := tried{rand.New(rand.NewSource(12))}
	count := map[api.Errno]int{}
	offsets := 0
	for range 120 {
		x, m := r.table()
		for _, name := range m.names {
			want, wantError := m.atom(plain(name, 1))
			s, e := reduce.Atom(x, plain(name, 1))
			compare(t, name, s, e, want, wantError)
		}
		for range 400 {
			a, p := r.atom(), r.part()
			want, wantError := m.atom(a)
			s, e := reduce.Atom(x, a)
			compare(t, a, s, e, want, wantError)
			want, wantError = m.of(p)
			s, e = reduce.Of(x, p)
			compare(t, p, s, e, want, wantError)
			compareWhole(t, x, m, unit.Unit{Parts: []unit.Part{p, r.part(), r.part()}})
			count[e]++
			if s.HasOffset {
				offsets++
			}
		}
	}
	for _, e := range []api.Errno{api.OK, api.ENONE, api.EARG, api.EOFFSET, api.EDIM, api.EZERO} {
		if count[e] < 50 {
			t.Errorf("error %d: only %d parts have it", e, count[e])
		}
	}
	if offsets < 50 {
		t.Errorf("only %d parts have an offset", offsets)
	}
}

// spare returns a list with spare capacity, in which something stands.
func spare[T any](l []T, over T) []T {
	return append(slices.Grow(slices.Clone(l), 3), over, over)[:len(l)]
}

// TestArgumentsAreKept looks that units are left as they are, spare capacity
// too.
func TestArgumentsAreKept(t *testing.T) {
	x := loads(t, common)
	for _, id := range []string{"mile-and-foot-and-inch", "celsius", "foot-kilosecond-per-60-inch-millisecond", "hotter-kelvin", "meter-per-celsius"} {
		fill := func() unit.Unit {
			u := parses(t, x, id)
			for i, p := range u.Parts {
				u.Parts[i] = unit.Part{
					Num: spare(p.Num, plain("spare", 7)), Den: spare(p.Den, plain("spare", 7)), Const: nat.N{L: spare(p.Const.L, 77)},
				}
			}
			u.Parts = spare(u.Parts, unit.Part{Num: list("spare")})
			return u
		}
		u, was := fill(), fill()
		reduce.Whole(x, u)
		reduce.Of(x, u.Parts[0])
		size := len(u.Parts) + 2
		if !reflect.DeepEqual(u.Parts[:size], was.Parts[:size]) {
			t.Errorf("%s has changed", id)
		}
		for i, p := range u.Parts {
			q := was.Parts[i]
			if !slices.Equal(p.Num[:len(p.Num)+2], q.Num[:len(q.Num)+2]) || !slices.Equal(p.Den[:len(p.Den)+2], q.Den[:len(q.Den)+2]) ||
				!slices.Equal(p.Const.L[:len(p.Const.L)+2], q.Const.L[:len(q.Const.L)+2]) {
				t.Errorf("the spare capacity of %s has changed", id)
			}
		}
	}
}

// scribble writes over a fraction, its spare capacity too.
func scribble(q rat.Q) {
	for _, l := range [][]uint32{q.P.N.L, q.Q.L} {
		l = l[:cap(l)]
		for i := range l {
			l[i] = 99
		}
	}
}

// told tells all that is asked of a table in these tests.
func told(t *testing.T, x *table.Table) string {
	t.Helper()
	var all strings.Builder
	for _, name := range x.Known().Names {
		s, e := reduce.Atom(x, plain(name, 1))
		y, _ := x.Entry(name)
		all.WriteString(fmt.Sprint(name, sumText(s), e, y.ID, rat.Text(y.Factor), rat.Text(y.Offset), "\n"))
	}
	for _, id := range []string{"kilofoot", "inch-and-celsius-and-per-knot", "square-celsius", "foot-kilosecond-per-60-inch-millisecond", "per-1000"} {
		l, e := reduce.Whole(x, parses(t, x, id))
		all.WriteString(fmt.Sprint(id, e))
		for _, s := range l {
			all.WriteString(sumText(s))
		}
	}
	return all.String()
}

// TestResultsAreNewMemory writes over every fraction of every result, one after
// the other.
func TestResultsAreNewMemory(t *testing.T) {
	x := loads(t, common)
	was := told(t, x)
	one := nat.Of(1)
	number := nat.N{L: []uint32{7, 5, 3}}
	collect := func() []reduce.Sum {
		var l []reduce.Sum
		for _, a := range []atom.Atom{plain("meter", 1), plain("foot", 1), plain("celsius", 1), plain("level", 1), {Prefix: "kilo", Name: "meter", Power: 1}} {
			s, _ := reduce.Atom(x, a)
			l = append(l, s)
			s, _ = reduce.Of(x, unit.Part{Num: []atom.Atom{a}, Const: one})
			l = append(l, s)
		}
		s, _ := reduce.Of(x, unit.Part{Const: number})
		l = append(l, s)
		u := parses(t, x, "meter-and-meter-and-celsius-and-per-1000")
		more, _ := reduce.Whole(x, u)
		return append(l, more...)
	}
	l, want := collect(), collect()
	for i := range l {
		scribble(l[i].Factor)
		if rat.Text(l[i].Offset) != rat.Text(want[i].Offset) {
			t.Errorf("number %d: Factor and Offset share memory", i)
		}
		scribble(l[i].Offset)
		for j := i + 1; j < len(l); j++ {
			if sumText(l[j]) != sumText(want[j]) {
				t.Fatalf("numbers %d and %d share memory", i, j)
			}
		}
	}
	if told(t, x) != was || nat.Text(one) != "1" || !slices.Equal(number.L, []uint32{7, 5, 3}) {
		t.Errorf("what was written over results is seen elsewhere")
	}
	s, _ := reduce.Atom(x, plain("foot", 1))
	for i := range s.Factor.P.N.L {
		s.Factor.P.N.L[i] = 0
	}
	if s.Factor.P = num.Of(1); rat.Text(s.Factor) != "1/1250" {
		t.Errorf("the terms of a fraction share memory")
	}
}

// TestTablesAreKept looks that calls, those with an error too, leave nothing
// behind, and that one table is not seen in another.
func TestTablesAreKept(t *testing.T) {
	x, y := loads(t, common), loads(t, "base meter length\nunit foot 3 meter\nunit inch 2 foot")
	was := told(t, x)
	for range 3 {
		factorIs(t, y, "inch", dims.V{1}, "6")
		factorIs(t, x, "inch", dims.V{1}, "127/5000")
		reduce.Atom(x, plain("nothing", 1))
		reduce.Of(x, unit.Part{Num: list("inch", "nothing")})
		if told(t, x) != was {
			t.Fatalf("the answers have changed")
		}
	}
}

package table_test

import (
	"fmt"
	"math"
	"math/rand"
	"reflect"
	"slices"
	"strings"
	"testing"

	"cubit/api"
	"cubit/atom"
	"cubit/dims"
	"cubit/nat"
	"cubit/num"
	"cubit/rat"
	"cubit/rows"
	"cubit/table"
	"cubit/unit"
)

// common is what most of the tests add their rows to.
const common = `base meter length
base kilogram mass
base second duration
base kelvin temperature
prefix kilo 10 3
prefix milli 10 -3
prefix kibi 2 10
unit gram 1/1000 kilogram
unit foot 381/1250 meter
unit inch 1/12 foot
unit celsius 1 kelvin 5463/20
unit fahrenheit 5/9 kelvin 45967/180
unit newton 1 kilogram-meter-per-square-second
unit percent 1 per-100
quantity speed meter-per-second
quantity force newton
alias metre meter
alias mph foot-per-second
`

// rowsOf returns the rows of a text, as they are: also what rows.Parse refuses.
func rowsOf(text string) []rows.Row {
	var l []rows.Row
	for i, line := range strings.Split(text, "\n") {
		if w := strings.Fields(line); len(w) > 0 {
			l = append(l, rows.Row{Line: i + 1, W: w})
		}
	}
	return l
}

// brief returns so much of a text as may stand in a message.
func brief(text string) string {
	if len(text) > 200 {
		return fmt.Sprintf("..%q of %d bytes", text[len(text)-200:], len(text))
	}
	return fmt.Sprintf("%q", text)
}

// loads returns the table of a text, which must be valid.
func loads(t *testing.T, text string) *table.Table {
	t.Helper()
	x, line, e := table.Load(rowsOf(text))
	if x == nil || line != 0 || e != api.OK {
		t.Fatalf("Load(%s): line %d, error %d", brief(text), line, e)
	}
	return x
}

// refuses fails the test unless the rows are refused at the last line of text
// with that error.
func refuses(t *testing.T, text string, want api.Errno) {
	t.Helper()
	at := strings.Count(text, "\n") + 1
	x, line, e := table.Load(rowsOf(text))
	if x != nil || line != at || e != want {
		t.Errorf("Load(%s): line %d, error %d, want line %d, error %d", brief(text), line, e, at, want)
	}
}

// judges fails the test unless a row after the common ones has that error, or
// none.
func judges(t *testing.T, row string, want api.Errno) {
	t.Helper()
	if want == api.OK {
		loads(t, common+row)
		return
	}
	refuses(t, common+row, want)
}

// parses returns the unit that id writes, which must be one.
func parses(t *testing.T, x *table.Table, id string) unit.Unit {
	t.Helper()
	u, e := x.Parse(id)
	if e != api.OK {
		t.Fatalf("Parse(%q): error %d", id, e)
	}
	return u
}

// entryText tells an entry whole.
func entryText(y table.Entry) string {
	return fmt.Sprintf("%s %s %d %s %s %v", y.Name, y.ID, y.Base, rat.Text(y.Factor), rat.Text(y.Offset), y.HasOffset)
}

// isNoEntry reports whether each field is zero.
func isNoEntry(y table.Entry) bool {
	return y.Name == "" && y.ID == "" && y.Base == 0 && !y.HasOffset && rat.Sign(y.Factor) == 0 && rat.Sign(y.Offset) == 0
}

func TestKnown(t *testing.T) {
	k := loads(t, common).Known()
	if got := fmt.Sprint(k.Names); got != "[meter kilogram second kelvin gram foot inch celsius fahrenheit newton percent]" {
		t.Errorf("Names: %s", got)
	}
	if got := fmt.Sprint(k.Prefixes); got != "[kilo milli kibi]" {
		t.Errorf("Prefixes: %s", got)
	}
	// It is the order of the rows and not that of the kinds or of the letters.
	k = loads(t, "unit z 1 per-7\nprefix z 2 1\nbase a x\nprefix a 2 2\nunit m 1 a\nbase b y\nprefix m 2 3").Known()
	if got := fmt.Sprint(k); got != "{[z a m b] [z a m]}" {
		t.Errorf("Known: %s", got)
	}
	for _, text := range []string{"", "\n\n", "say hello\nlet a 1"} {
		if k := loads(t, text).Known(); len(k.Names)+len(k.Prefixes) != 0 {
			t.Errorf("Known of %q: %v", text, k)
		}
	}
	// More than a map keeps in order by chance.
	var text strings.Builder
	var names []string
	for i := range 300 {
		name := fmt.Sprint("n", i*7%300)
		names = append(names, name)
		text.WriteString("unit " + name + " 2 per-3\nprefix " + name + " 10 1\n")
	}
	if k := loads(t, text.String()).Known(); !slices.Equal(k.Names, names) || !slices.Equal(k.Prefixes, names) {
		t.Errorf("Known of many: %v", k)
	}
}

func TestEntry(t *testing.T) {
	x := loads(t, common+"unit odd 06/04 square-kilofoot-per-100-second\nunit below 1 kelvin -7/21\nunit level 3/1 kelvin 0/5\n")
	for name, want := range map[string]string{
		"meter": "meter meter 0 1 0 false", "kilogram": "kilogram kilogram 1 1 0 false", "kelvin": "kelvin kelvin 3 1 0 false",
		"gram": "gram kilogram -1 1/1000 0 false", "foot": "foot meter -1 381/1250 0 false", "inch": "inch foot -1 1/12 0 false",
		"celsius": "celsius kelvin -1 1 5463/20 true", "fahrenheit": "fahrenheit kelvin -1 5/9 45967/180 true",
		"newton": "newton kilogram-meter-per-square-second -1 1 0 false", "percent": "percent per-100 -1 1 0 false",
		"odd": "odd square-kilofoot-per-100-second -1 3/2 0 false", "below": "below kelvin -1 1 -1/3 true", "level": "level kelvin -1 3 0 true",
	} {
		y, ok := x.Entry(name)
		if !ok || entryText(y) != want || !rat.Good(y.Factor) || !rat.Good(y.Offset) {
			t.Errorf("Entry(%s): %s, %v, want %s", name, entryText(y), ok, want)
		}
	}
	for _, name := range []string{"", "metre", "mph", "kilo", "kilometer", "length", "speed", "METER", "meter ", "square-meter", "per-100", "base", "\xff"} {
		if y, ok := x.Entry(name); ok || !isNoEntry(y) {
			t.Errorf("Entry(%q): %s, %v", name, entryText(y), ok)
		}
	}
}

func TestPrefix(t *testing.T) {
	x := loads(t, common+"prefix none 10 0\nprefix nor 2 0\nprefix most 10 30\nprefix least 10 -30\nprefix two 2 30\nprefix half 2 -30\nprefix meter 2 1\nprefix metre 10 1")
	for name, want := range map[string]string{
		"kilo": "1000", "milli": "1/1000", "kibi": "1024", "none": "1", "nor": "1", "most": "1" + strings.Repeat("0", 30),
		"least": "1/1" + strings.Repeat("0", 30), "two": "1073741824", "half": "1/1073741824", "meter": "2", "metre": "10",
	} {
		if q, ok := x.Prefix(name); !ok || rat.Text(q) != want || !rat.Good(q) {
			t.Errorf("Prefix(%s): %s, %v, want %s", name, rat.Text(q), ok, want)
		}
	}
	for _, name := range []string{"", "second", "kil", "kilometer", "KILO", "10"} {
		if q, ok := x.Prefix(name); ok || rat.Sign(q) != 0 {
			t.Errorf("Prefix(%q): %s, %v", name, rat.Text(q), ok)
		}
	}
}

func TestAlias(t *testing.T) {
	x := loads(t, common+"alias kilo meter\nalias long square-kilometer-per-100-kilosecond\nalias far square-celsius")
	for old, want := range map[string]string{
		"metre": "meter", "mph": "foot-per-second", "kilo": "meter", "long": "square-kilometer-per-100-kilosecond", "far": "square-celsius",
	} {
		if id, ok := x.Alias(old); !ok || id != want {
			t.Errorf("Alias(%s): %q, %v, want %s", old, id, ok, want)
		}
	}
	for _, old := range []string{"", "meter", "milli", "kilometre", "foot-per-second", "length", "METRE"} {
		if id, ok := x.Alias(old); ok || id != "" {
			t.Errorf("Alias(%q): %q, %v", old, id, ok)
		}
	}
}

func TestQuantity(t *testing.T) {
	x := loads(t, common+"quantity length square-foot\nquantity a-b-1 per-100\nquantity thrice square-celsius")
	for v, want := range map[dims.V]string{
		{1}: "length", {0, 1}: "mass", {0, 0, 1}: "duration", {0, 0, 0, 1}: "temperature", {1, 0, -1}: "speed", {1, 1, -2}: "force",
		{2}: "length", {}: "a-b-1", {0, 0, 0, 2}: "thrice",
	} {
		if name, ok := x.Quantity(v); !ok || name != want {
			t.Errorf("Quantity(%v): %q, %v, want %s", v, name, ok, want)
		}
	}
	for _, v := range []dims.V{{-1}, {3}, {0, 0, 0, 0, 1}, {-1, 0, 1}, {101}, {math.MinInt}, {1, 1}} {
		if name, ok := x.Quantity(v); ok || name != "" {
			t.Errorf("Quantity(%v): %q, %v", v, name, ok)
		}
	}
	if name, ok := loads(t, "").Quantity(dims.V{}); ok || name != "" {
		t.Errorf("Quantity of nothing: %q, %v", name, ok)
	}
}

func TestParse(t *testing.T) {
	x := loads(t, common+"alias kilofoot inch\nalias far kilofoot\nalias pct per-50\nalias pair gram-second\nalias kilo foot")
	for id, want := range map[string]string{
		"meter": "meter", "kilometer": "kilometer", "square-milligram-per-100-kibifoot": "square-milligram-per-100-kibifoot",
		"metre": "meter", "square-metre": "square-meter", "metre-metre-per-metre": "meter-meter-per-meter", "per-100-metre": "per-100-meter",
		"metre-and-inch": "meter-and-inch", "inch-and-mph": "inch-and-foot-per-second", "mph-and-mph": "foot-per-second-and-foot-per-second",
		"mph": "foot-per-second", "square-mph": "square-foot-per-second", "kilogram-mph": "kilogram-foot-per-second", "pow15-pair": "pow15-gram-second",
		"per-pair": "per-gram-second", "per-100-pair": "per-100-gram-second", "pct": "per-50", "meter-pct": "meter-per-50", "pct-pair": "per-50-gram-second",
		// An alias is looked for before a prefix with a name, but in what an alias
		// is read as there is none.
		"kilofoot": "inch", "far": "kilofoot", "far-kilofoot": "kilofoot-inch", "kilo": "foot", "kiloinch": "kiloinch", "kilo-meter": "foot-meter",
	} {
		u, e := x.Parse(id)
		direct, _ := unit.Parse(x.Known(), want)
		if e != api.OK || unit.Show(u) != want || !reflect.DeepEqual(u, direct) {
			t.Errorf("Parse(%s): %s, error %d, want %s", id, unit.Show(u), e, want)
		}
	}
	for _, id := range []string{
		"", "-", "metres", "kilometre", "Metre", "metre ", "metre-", "-metre", "metre--metre", "square", "metre-square", "length", "per", "per-1-metre",
		"mph-per-second", "mph-mph", "per-mph", "per-pct", "100-pct", "pct-100", "pct-and", "and-metre", "metre-and-and-metre", "metre/second", "far-",
		"metre-and-metre-and-metre-and-metre-and-metre", "pair-pair-pair-pair-metre", "metre_metre", "\xff",
	} {
		if u, e := x.Parse(id); e != api.EFORM || len(u.Parts) != 0 {
			t.Errorf("Parse(%q): %s, error %d, want EFORM", id, unit.Show(u), e)
		}
	}
	if u, e := loads(t, "").Parse("per-100"); e != api.OK || unit.Show(u) != "per-100" {
		t.Errorf("Parse of a number alone: %s, error %d", unit.Show(u), e)
	}
}

// TestParseSize has ids that are too long before or after the aliases.
func TestParseSize(t *testing.T) {
	long, old := strings.Repeat("x", 20), strings.Repeat("y", 20)
	x := loads(t, "base "+long+" length\nbase a mass\nalias b "+long+"\nalias "+old+" a\nalias c "+long+"-"+long)
	list := func(count int, word string) string {
		return strings.Join(slices.Repeat([]string{word}, count), "-")
	}
	for id, want := range map[string]api.Errno{
		list(8, "b"): api.OK, list(4, "c"): api.OK, list(8, old): api.OK, list(12, old): api.EFORM,
		// It is too long as it is, although it would not be after the aliases.
		list(13, old): api.ESIZE, list(129, "a"): api.ESIZE, strings.Repeat("a", 257): api.ESIZE, strings.Repeat("-", 257): api.ESIZE, strings.Repeat("A", 257): api.ESIZE,
		strings.Repeat("a", 256): api.EFORM, strings.Repeat("-", 256): api.EFORM, list(128, "a"): api.EFORM,
		// After the aliases it is too long, and has no form either.
		list(12, "b"): api.EFORM, list(13, "b"): api.ESIZE, list(6, "c"): api.EFORM, list(7, "c"): api.ESIZE, list(128, "c"): api.ESIZE, list(8, "c") + "-nothing": api.ESIZE,
		list(7, "c") + "-": api.EFORM, list(7, "c") + "-C": api.EFORM,
	} {
		if u, e := x.Parse(id); e != want || (len(u.Parts) != 0) != (want == api.OK) {
			t.Errorf("Parse(%s): error %d, want %d", brief(id), e, want)
		}
	}
}

// TestParseAtTheSize has what is just as long as it may be after the aliases,
// and one byte longer.
func TestParseAtTheSize(t *testing.T) {
	long := strings.Repeat("x", 20)
	for _, extra := range []int{12, 13} {
		last := strings.Repeat("z", extra)
		x := loads(t, "base "+long+" length\nbase "+last+" mass\nalias b "+long+"\nalias c "+last)
		id, want := "b-b-b-b-b-b-per-3456-b-b-and-b-b-b-c", api.OK
		if extra == 13 {
			want = api.ESIZE
		}
		u, e := x.Parse(id)
		if e != want || e == api.OK && len(unit.Show(u)) != api.MaxText || e != api.OK && len(u.Parts) != 0 {
			t.Errorf("Parse(%s): error %d, want %d", id, e, want)
		}
	}
}

func TestVec(t *testing.T) {
	x := loads(t, common+"alias far kilometer\nquantity any per-7")
	for id, want := range map[string]dims.V{
		"meter": {1}, "kilogram": {0, 1}, "kelvin": {0, 0, 0, 1}, "inch": {1}, "kiloinch": {1}, "celsius": {0, 0, 0, 1}, "square-celsius": {0, 0, 0, 2},
		"newton": {1, 1, -2}, "per-newton": {-1, -1, 2}, "square-kilonewton-per-meter-second": {1, 2, -5}, "newton-per-newton": {},
		"percent": {}, "percent-meter": {1}, "per-100": {}, "per-pow15-second": {0, 0, -15}, "inch-per-foot": {}, "gram-per-7-cubic-foot": {-3, 1},
		"pow15-newton-pow15-meter": {30, 15, -30}, "far": {1}, "square-far": {2},
	} {
		if v, ok := x.Vec(parses(t, x, id).Parts[0]); !ok || v != want {
			t.Errorf("Vec(%s): %v, %v, want %v", id, v, ok, want)
		}
	}
}

// plain returns an atom without prefix.
func plain(name string, power int) atom.Atom {
	return atom.Atom{Name: name, Power: power}
}

// TestVecOfAnyPart has parts that no parsing makes.
func TestVecOfAnyPart(t *testing.T) {
	x := loads(t, common)
	list := func(l ...atom.Atom) []atom.Atom { return l }
	for i, c := range []struct {
		p    unit.Part
		want dims.V
		ok   bool
	}{
		{unit.Part{}, dims.V{}, true},
		{unit.Part{Const: nat.Of(7)}, dims.V{}, true},
		{unit.Part{Num: list(plain("meter", 0))}, dims.V{}, true},
		{unit.Part{Num: list(plain("meter", -3)), Const: nat.N{L: []uint32{0, 0}}}, dims.V{-3}, true},
		{unit.Part{Den: list(plain("newton", -3))}, dims.V{3, 3, -6}, true},
		{unit.Part{Num: list(plain("meter", 100))}, dims.V{100}, true},
		{unit.Part{Den: list(plain("meter", 100))}, dims.V{-100}, true},
		{unit.Part{Num: list(plain("meter", 101))}, dims.V{}, false},
		{unit.Part{Den: list(plain("meter", 101))}, dims.V{}, false},
		{unit.Part{Den: list(plain("meter", -101))}, dims.V{}, false},
		{unit.Part{Num: list(plain("meter", math.MaxInt))}, dims.V{}, false},
		{unit.Part{Den: list(plain("meter", math.MinInt))}, dims.V{}, false},
		{unit.Part{Num: list(plain("newton", 1<<62), plain("meter", 1))}, dims.V{}, false},
		{unit.Part{Num: list(plain("percent", math.MaxInt)), Den: list(plain("percent", math.MinInt))}, dims.V{}, true},
		{unit.Part{Num: list(plain("metre", 1))}, dims.V{}, false},
		{unit.Part{Num: list(plain("", 1))}, dims.V{}, false},
		{unit.Part{Num: list(plain("kilometer", 1))}, dims.V{}, false},
		{unit.Part{Den: list(plain("nothing", 0))}, dims.V{}, false},
		{unit.Part{Num: list(plain("meter", 1)), Den: list(plain("second", 1), plain("Meter", 1))}, dims.V{}, false},
		{unit.Part{Num: list(atom.Atom{Prefix: "kilo", Name: "meter", Power: 2})}, dims.V{2}, true},
		{unit.Part{Num: slices.Repeat(list(plain("meter", 1)), 100)}, dims.V{100}, true},
		{unit.Part{Num: slices.Repeat(list(plain("meter", 1)), 101)}, dims.V{}, false},
		{unit.Part{Num: slices.Repeat(list(plain("meter", 7), plain("meter", -7)), 5000)}, dims.V{}, true},
	} {
		if v, ok := x.Vec(c.p); ok != c.ok || v != c.want {
			t.Errorf("Vec of number %d: %v, %v, want %v, %v", i, v, ok, c.want, c.ok)
		}
	}
}

// TestVecOnTheWay has sums that are not valid in between only. The order is that
// of Num and then of Den.
func TestVecOnTheWay(t *testing.T) {
	x := loads(t, "base a x\nbase z y\nunit b 1 pow15-a\nunit c 1 pow6-b\nunit d 1 c-pow10-a\nunit e 1 per-d\nunit f 1 d-per-z")
	for id, want := range map[string]int{
		"d": 100, "e": -100, "f": 100, "d-per-a": 99, "d-per-d": 0, "e-d-d": 100, "a-per-d-a": -100, "d-e-d-e": 0, "e-a-d": 1, "a-per-d": -99,
		"a-e-d": 1, "c-pow10-a": 100, "pow10-a-c": 100, "per-e": 100, "per-e-d-e": 100, "z-per-e-z": 100,
	} {
		if v, ok := x.Vec(parses(t, x, id).Parts[0]); !ok || v[0] != want {
			t.Errorf("Vec(%s): %v, %v, want %d", id, v, ok, want)
		}
	}
	for _, id := range []string{"d-a", "a-d", "square-d", "square-e", "d-a-per-a", "d-d-per-d", "d-d-e", "per-d-a", "per-a-d", "per-d-d-e", "e-per-a", "d-per-e", "f-a-per-a", "z-square-d", "d-z-a"} {
		if v, ok := x.Vec(parses(t, x, id).Parts[0]); ok || v != (dims.V{}) {
			t.Errorf("Vec(%s): %v, %v", id, v, ok)
		}
	}
}

// TestVecOfOldNames looks that a unit keeps the dimension that it had when it was
// defined, although its ID would be read otherwise now.
func TestVecOfOldNames(t *testing.T) {
	x := loads(t, "base meter length\nbase second duration\nprefix kilo 10 3\nunit far 7 kilometer\nunit kilometer 1 second\nunit near 1 kilometer")
	for id, want := range map[string]dims.V{"far": {1}, "kilometer": {0, 1}, "near": {0, 1}} {
		if v, ok := x.Vec(parses(t, x, id).Parts[0]); !ok || v != want {
			t.Errorf("Vec(%s): %v, %v, want %v", id, v, ok, want)
		}
	}
}

func TestFactor(t *testing.T) {
	x := loads(t, common+"alias far kilometer\nunit hard 3/7 square-kilofoot-per-100-milligram\nunit harder 7/3 per-hard\n")
	for id, want := range map[string]string{
		"meter": "1", "kilometer": "1000", "millimeter": "1/1000", "kibimeter": "1024", "foot": "381/1250", "inch": "127/5000", "square-inch": "16129/25000000",
		"gram": "1/1000", "kilogram": "1", "per-gram": "1000", "milligram-per-gram": "1/1000", "pow15-kilometer": "1" + strings.Repeat("0", 45),
		"cubic-millimeter": "1/1000000000", "per-cubic-millimeter": "1000000000", "newton": "1", "percent": "1/100", "per-100": "1/100", "per-7-inch-foot": "6250000/338709",
		"foot-per-inch": "12", "cubic-foot-per-1728-cubic-inch": "1", "square-far": "1000000", "mph": "381/1250", "hard": "2787091200/7", "harder": "49/8361273600",
		"hard-harder": "7/3", "hard-per-hard": "1",
		// An offset is no part of a factor.
		"celsius": "1", "square-fahrenheit": "25/81", "per-kilofahrenheit": "9/5000",
	} {
		if q, ok := x.Factor(parses(t, x, id).Parts[0]); !ok || rat.Text(q) != want || !rat.Good(q) {
			t.Errorf("Factor(%s): %s, %v, want %s", id, rat.Text(q), ok, want)
		}
	}
}

// TestFactorOfAnyPart has parts that no parsing makes.
func TestFactorOfAnyPart(t *testing.T) {
	x := loads(t, common)
	list := func(l ...atom.Atom) []atom.Atom { return l }
	one := nat.Of(1)
	for i, c := range []struct {
		p    unit.Part
		want string
	}{
		{unit.Part{Const: one}, "1"},
		{unit.Part{Const: nat.N{L: []uint32{7, 0, 0}}}, "1/7"},
		{unit.Part{Num: slices.Repeat(list(plain("percent", 1)), 100), Den: slices.Repeat(list(plain("percent", 1)), 101), Const: one}, "100"},
		{unit.Part{Num: list(plain("foot", 15)), Den: list(plain("inch", 15)), Const: nat.Of(12)}, "1283918464548864"},
		// A dimension that is not valid doesn't matter here.
		{unit.Part{Num: slices.Repeat(list(plain("meter", 15)), 10), Const: one}, "1"},
		{unit.Part{}, ""},
		{unit.Part{Const: nat.N{L: []uint32{0, 0}}}, ""},
		{unit.Part{Num: list(plain("meter", 1))}, ""},
		{unit.Part{Num: list(plain("meter", 0)), Const: one}, ""},
		{unit.Part{Num: list(plain("meter", -1)), Const: one}, ""},
		{unit.Part{Den: list(plain("meter", 16)), Const: one}, ""},
		{unit.Part{Num: list(plain("meter", math.MaxInt)), Const: one}, ""},
		{unit.Part{Num: list(plain("meter", math.MinInt)), Const: one}, ""},
		{unit.Part{Num: list(plain("metre", 1)), Const: one}, ""},
		{unit.Part{Num: list(plain("", 1)), Const: one}, ""},
		{unit.Part{Num: list(plain("kilometer", 1)), Const: one}, ""},
		{unit.Part{Num: list(plain("meter", 1)), Den: list(plain("kilo", 1)), Const: one}, ""},
		{unit.Part{Num: list(atom.Atom{Prefix: "giga", Name: "meter", Power: 1}), Const: one}, ""},
		{unit.Part{Num: list(atom.Atom{Prefix: "kilo", Name: "metre", Power: 1}), Const: one}, ""},
		{unit.Part{Num: list(atom.Atom{Prefix: "kilo", Power: 1}), Const: one}, ""},
	} {
		q, ok := x.Factor(c.p)
		if ok != (c.want != "") || ok && (rat.Text(q) != c.want || !rat.Good(q)) || !ok && rat.Sign(q) != 0 {
			t.Errorf("Factor of number %d: %s, %v, want %s", i, rat.Text(q), ok, c.want)
		}
	}
}

// TestLaterRows looks that a unit is what its row made it, although a later name,
// alias or prefix would make its ID be read otherwise.
func TestLaterRows(t *testing.T) {
	const rows = "base a length\nbase b time\nprefix k 10 3\nunit ka 7 a\nunit kb 11 a\nunit x 1 kka\nunit y 1 square-kkb\nunit z 1/2 kb\n"
	for _, later := range []string{
		"", "prefix kk 10 1\n", "prefix kk 10 1\nprefix kkk 2 5\n", "base kka mass\n", "unit kka 3 b\nunit kkb 5 ka\n", "alias kka b\nalias kkb b\n", "prefix kk 2 -1\nunit kka 3 b\n",
	} {
		x := loads(t, rows+later+"unit w 3 x-per-a\n")
		for _, c := range []struct {
			name, factor string
			vec          dims.V
		}{{"x", "7000", dims.V{1}}, {"y", "121000000", dims.V{2}}, {"z", "11/2", dims.V{1}}, {"w", "21000", dims.V{}}} {
			p := unit.Part{Num: []atom.Atom{plain(c.name, 1)}, Const: nat.Of(1)}
			if v, ok := x.Vec(p); !ok || v != c.vec {
				t.Errorf("%q: Vec(%s): %v, %v, want %v", later, c.name, v, ok, c.vec)
			}
			if q, ok := x.Factor(p); !ok || rat.Text(q) != c.factor {
				t.Errorf("%q: Factor(%s): %s, %v, want %s", later, c.name, rat.Text(q), ok, c.factor)
			}
		}
	}
	// Ahead of the row it counts.
	x := loads(t, "base a length\nbase b time\nprefix k 10 3\nunit ka 7 a\nprefix kk 10 1\nunit x 1 kka\nunit y 1 kkb\n")
	for _, name := range []string{"x", "y"} {
		if q, ok := x.Factor(unit.Part{Num: []atom.Atom{plain(name, 1)}, Const: nat.Of(1)}); !ok || rat.Text(q) != "10" {
			t.Errorf("Factor(%s): %s, %v, want 10", name, rat.Text(q), ok)
		}
	}
}

// TestRowsThatAreIgnored has rows of other kinds, and rows without words.
func TestRowsThatAreIgnored(t *testing.T) {
	for _, row := range []string{
		"word en long meter one - {0}_meter", "prefer length default US 0 foot", "Base a b", "bases", "unit- a", "BASE", "-", "region", "likely x", "aliases a",
		"prefixes a b c d e f g", "quantities", "units a 1 meter", "base\x00 q", "baſe a b",
	} {
		judges(t, row, api.OK)
		judges(t, row+"\nbase", api.EFORM)
	}
	x, line, e := table.Load([]rows.Row{{Line: 5}, {Line: 6, W: []string{}}, {Line: 7, W: []string{""}}, {Line: 8, W: []string{"base", "a", "x"}}})
	if x == nil || line != 0 || e != api.OK {
		t.Fatalf("Load of rows without words: line %d, error %d", line, e)
	}
	if k := x.Known(); !slices.Equal(k.Names, []string{"a"}) {
		t.Errorf("Known: %v", k)
	}
}

// TestLines looks that the line is what the row says, and that of the first row
// that is wrong.
func TestLines(t *testing.T) {
	for _, line := range []int{0, -1, 7, math.MaxInt, math.MinInt} {
		l := []rows.Row{{Line: 3, W: []string{"base", "a", "x"}}, {Line: line, W: []string{"base", "a", "y"}}, {Line: 4, W: []string{"unit"}}}
		if x, got, e := table.Load(l); x != nil || got != line || e != api.ETWICE {
			t.Errorf("Load: line %d, error %d, want line %d, ETWICE", got, e, line)
		}
	}
	refuses(t, common+"\n\nother\nbase", api.EFORM)
	for _, bad := range []string{"base", "prefix a 3 3", "unit a 1 foot 5", "quantity q meter", "alias metre foot", "unit a 1 pow15-newton-pow15-newton-pow15-newton-pow15-newton"} {
		for _, other := range []string{"base", "prefix a 3 3", "unit a 1 foot 5", "quantity q meter", "alias metre foot"} {
			l := rowsOf(common + bad + "\n" + other)
			if _, line, e := table.Load(l); line != 19 || e == api.OK {
				t.Errorf("Load of %q, %q: line %d, error %d", bad, other, line, e)
			}
		}
	}
}

// TestNumberOfWords has every kind with every number of words. The number is
// looked at first, whatever the words are.
func TestNumberOfWords(t *testing.T) {
	for kind, c := range map[string]struct {
		words   []string
		fits    []int
		nothing string
	}{
		"base":     {[]string{"a", "x"}, []int{2}, "- meter"},
		"prefix":   {[]string{"a", "10", "3"}, []int{3}, "kilo"},
		"unit":     {[]string{"a", "1", "kelvin", "5"}, []int{3, 4}, "meter"},
		"quantity": {[]string{"a", "square-meter"}, []int{2}, "-"},
		"alias":    {[]string{"a", "foot"}, []int{2}, "metre"},
	} {
		for size := range 24 {
			words := append(slices.Clone(c.words), slices.Repeat([]string{"1"}, 24)...)[:size]
			want := api.EFORM
			if slices.Contains(c.fits, size) {
				want = api.OK
			}
			judges(t, kind+" "+strings.Join(words, " "), want)
			if want != api.OK {
				judges(t, kind+" "+strings.Repeat(c.nothing+" ", size)+strings.Repeat(" - - - - -", 2), api.EFORM)
			}
		}
	}
}

// TestNames has what may be the name of a base, a prefix, a unit or an alias.
func TestNames(t *testing.T) {
	twenty := strings.Repeat("n", 20)
	for name, want := range map[string]api.Errno{
		"a": api.OK, "7a": api.OK, "a7": api.OK, "pow": api.OK, "powa": api.OK, "pow4a": api.OK, "apow4": api.OK, "perm": api.OK, "band": api.OK, "squares": api.OK,
		"base": api.OK, "unit": api.OK, "0x": api.OK, twenty: api.OK, "length": api.OK,
		twenty + "n": api.EFORM, "per": api.EFORM, "and": api.EFORM, "square": api.EFORM, "cubic": api.EFORM, "0": api.EFORM, "1": api.EFORM, "100": api.EFORM,
		"007": api.EFORM, "pow0": api.EFORM, "pow4": api.EFORM, "pow15": api.EFORM, "pow16": api.EFORM, "pow007": api.EFORM, "A": api.EFORM, "aB": api.EFORM,
		"a-b": api.EFORM, "-": api.EFORM, "a-": api.EFORM, "a.": api.EFORM, "a_b": api.EFORM, "\xff": api.EFORM, "é": api.EFORM, "a\x00": api.EFORM,
	} {
		judges(t, "base "+name+" x", want)
		judges(t, "prefix "+name+" 10 1", want)
		judges(t, "unit "+name+" 1 meter", want)
		judges(t, "unit "+name+" 1 kelvin 1", want)
		judges(t, "alias "+name+" meter", want)
	}
	for _, w := range [][]string{{"base", "", "x"}, {"prefix", "", "10", "1"}, {"unit", "", "1", "meter"}, {"alias", "", "meter"}, {"base", "a b", "x"}, {"quantity", "", "square-meter"}, {"quantity", "a b", "square-meter"}} {
		l := append(rowsOf(common), rows.Row{Line: 99, W: w})
		if x, line, e := table.Load(l); x != nil || line != 99 || e != api.EFORM {
			t.Errorf("Load of %q: line %d, error %d", w, line, e)
		}
	}
}

// TestNamesTwice looks at the two groups: units with aliases, and prefixes.
func TestNamesTwice(t *testing.T) {
	for _, name := range []string{"meter", "kelvin", "foot", "celsius", "percent", "metre", "mph"} {
		judges(t, "base "+name+" x", api.ETWICE)
		judges(t, "unit "+name+" 1 meter", api.ETWICE)
		judges(t, "alias "+name+" meter", api.ETWICE)
		judges(t, "prefix "+name+" 10 1", api.OK)
		judges(t, "prefix "+name+" 10 1\nprefix "+name+" 10 1", api.ETWICE)
	}
	for _, name := range []string{"kilo", "milli", "kibi"} {
		judges(t, "base "+name+" x", api.OK)
		judges(t, "unit "+name+" 1 meter", api.OK)
		judges(t, "alias "+name+" meter", api.OK)
		judges(t, "prefix "+name+" 10 3", api.ETWICE)
	}
	for _, name := range []string{"kilometer", "length", "speed", "force", "new"} {
		judges(t, "base "+name+" x", api.OK)
		judges(t, "unit "+name+" 1 meter", api.OK)
		judges(t, "alias "+name+" meter", api.OK)
		judges(t, "prefix "+name+" 10 3", api.OK)
	}
}

func TestQuantityNames(t *testing.T) {
	many := strings.Repeat("abcdefg-", 32)
	for name, want := range map[string]api.Errno{
		"a": api.OK, "7": api.OK, "100": api.OK, "per": api.OK, "square": api.OK, "a-b": api.OK, "and-7-per": api.OK, "length": api.OK, "speed": api.OK, "meter": api.OK,
		strings.Repeat("q", 20): api.OK, strings.Repeat("q", 21): api.EFORM, "a-" + strings.Repeat("q", 21): api.EFORM,
		many[:255]: api.OK, many[:255] + "a": api.OK, many[:255] + "ab": api.EFORM, many: api.EFORM, many + many: api.EFORM,
		"A": api.EFORM, "a-B": api.EFORM, "-": api.EFORM, "a--b": api.EFORM, "a-": api.EFORM, "-a": api.EFORM, "a_b": api.EFORM, "\xff": api.EFORM,
	} {
		judges(t, "base b "+name, want)
		judges(t, "quantity "+name+" square-meter", want)
	}
	// A name may stand for several dimensions.
	x := loads(t, "base a q\nbase b q\nquantity q a-b\nquantity q a-a")
	for _, v := range []dims.V{{1}, {0, 1}, {1, 1}, {2}} {
		if name, ok := x.Quantity(v); !ok || name != "q" {
			t.Errorf("Quantity(%v): %q, %v", v, name, ok)
		}
	}
}

func TestPrefixRows(t *testing.T) {
	for root, want := range map[string]api.Errno{
		"10": api.OK, "2": api.OK, "1": api.EFORM, "0": api.EFORM, "3": api.EFORM, "20": api.EFORM, "100": api.EFORM, "02": api.EFORM, "010": api.EFORM,
		"+2": api.EFORM, "-2": api.EFORM, "-10": api.EFORM, "2.0": api.EFORM, "ten": api.EFORM, "10/1": api.EFORM, "1e1": api.EFORM, "2_": api.EFORM,
	} {
		judges(t, "prefix a "+root+" 3", want)
	}
	for exponent := -40; exponent <= 40; exponent++ {
		want := api.OK
		if exponent < -30 || exponent > 30 {
			want = api.EFORM
		}
		judges(t, fmt.Sprint("prefix a 10 ", exponent), want)
		judges(t, fmt.Sprint("prefix a 2 ", exponent), want)
	}
	for _, exponent := range []string{
		"+3", "03", "-03", "-0", "00", "--3", "-", "3.0", "1/1", "x", "3x", "0x3", "1_0", "3e0", "٣", "-2147483649", "4294967299", "18446744073709551619",
		"18446744073709551616", "-18446744073709551613", strings.Repeat("9", 5000), strings.Repeat("0", 30) + "3",
	} {
		judges(t, "prefix a 10 "+exponent, api.EFORM)
	}
}

func TestFactors(t *testing.T) {
	ones := strings.Repeat("1", 100)
	for factor, want := range map[string]api.Errno{
		"1": api.OK, "01": api.OK, "6/4": api.OK, "007/0005": api.OK, "1/3": api.OK, ones: api.OK, ones[:49] + "/1" + ones[:49]: api.OK, strings.Repeat("0", 99) + "1": api.OK,
		"0": api.EFORM, "-0": api.EFORM, "0/7": api.EFORM, "-1": api.EFORM, "-1/2": api.EFORM, "1/0": api.EFORM, "1/00": api.EFORM, "1/-2": api.EFORM, "-1/-2": api.EFORM,
		"+1": api.EFORM, "1.5": api.EFORM, "1/": api.EFORM, "/2": api.EFORM, "/": api.EFORM, "1/2/3": api.EFORM, "x": api.EFORM, "1e3": api.EFORM, "1_0": api.EFORM, "٣": api.EFORM,
		ones + "1": api.EFORM, "0" + ones: api.EFORM, strings.Repeat("0", 100) + "1": api.EFORM, ones[:50] + "/" + ones[:50]: api.EFORM, "4/" + strings.Repeat("0", 98) + "2": api.EFORM,
		ones[:10] + "/" + strings.Repeat("0", 88) + "2": api.OK,
	} {
		judges(t, "unit a "+factor+" meter", want)
		if want == api.OK {
			y, _ := loads(t, "base m l\nunit a "+factor+" m").Entry("a")
			if rat.Text(y.Factor) != ratOf(factor).RatString() || !rat.Good(y.Factor) {
				t.Errorf("Factor of %s: %s", factor, rat.Text(y.Factor))
			}
		}
		// An offset may be 0 or less, too.
		if factor[:1] == "-" && !strings.Contains(factor, "/-") || factor[:1] == "0" && len(factor) < 9 {
			want = api.OK
		}
		judges(t, "unit a 1 kelvin "+factor, want)
	}
	minus := "-" + ones[:99]
	for _, offset := range []string{minus, "-7/2", "-0", "0", "-" + ones[:48] + "/3" + ones[:49], "-000/4"} {
		y, ok := loads(t, "base k t\nunit a 1 k "+offset).Entry("a")
		if !ok || !y.HasOffset || rat.Text(y.Offset) != ratOf(offset).RatString() || !rat.Good(y.Offset) {
			t.Errorf("Offset %s: %s, %v", offset, rat.Text(y.Offset), y.HasOffset)
		}
	}
	judges(t, "unit a 1 kelvin "+minus+"1", api.EFORM)
	judges(t, "unit a 1 kelvin -"+ones[:49]+"/"+ones[:50], api.EFORM)
}

func TestIDs(t *testing.T) {
	long := strings.Repeat("x", 257)
	for id, want := range map[string]api.Errno{
		"meter": api.OK, "kilometer": api.OK, "foot": api.OK, "square-kilometer-per-100-gram": api.OK, "per-second": api.OK, "per-7": api.OK, "pow15-percent": api.OK,
		"new": api.EFORM, "metre": api.EFORM, "mph": api.EFORM, "square-metre": api.EFORM, "kilometre": api.EFORM, "length": api.EFORM, "kilo": api.EFORM,
		"foot-and-inch": api.EFORM, "meter-and": api.EFORM, "and": api.EFORM, "per": api.EFORM, "per-1": api.EFORM, "-": api.EFORM, "meter--foot": api.EFORM,
		"METER": api.EFORM, "meter-meter-meter-meter-meter-meter-meter-meter-meter": api.EFORM, "foot-and-and-foot": api.EFORM, "later": api.EFORM,
		long: api.ESIZE, long[:256]: api.EFORM, strings.Repeat("-", 257): api.ESIZE, strings.Repeat("meter-and-", 30): api.ESIZE,
	} {
		for _, row := range []string{"unit new 1 " + id, "unit new 3/7 " + id, "alias new " + id} {
			judges(t, row, want)
		}
		if id != "meter" && id != "foot" && id != "kilometer" {
			judges(t, "quantity new "+id, want)
		}
	}
	// What comes later is not there yet.
	judges(t, "unit new 1 later", api.EFORM)
	judges(t, "unit later 1 meter\nunit new 1 later", api.OK)
	judges(t, "unit new 1 megameter", api.EFORM)
	judges(t, "prefix mega 10 6\nunit new 1 megameter", api.OK)
	judges(t, "alias new megameter", api.EFORM)
	judges(t, "quantity new square-later", api.EFORM)
}

// TestOrderOfErrors has rows with two faults or more: the first one counts.
func TestOrderOfErrors(t *testing.T) {
	long, bases := strings.Repeat("x", 257), "base e xe\nbase f xf\nbase g xg\nbase h xh\n"
	for row, want := range map[string]api.Errno{
		"base meter": api.EFORM, "base meter X Y": api.EFORM, "base meter X": api.ETWICE, "base A-b X": api.EFORM, "base metre length": api.ETWICE,
		bases + "base meter x": api.ETWICE, bases + "base i X": api.EFORM, bases + "base I x": api.EFORM, bases + "base i x": api.ESIZE, bases + "base i length": api.ESIZE,
		"prefix kilo 3": api.EFORM, "prefix kilo 3 x": api.ETWICE, "prefix Kilo 10 3": api.EFORM, "prefix milli 10 31": api.ETWICE,
		"unit meter": api.EFORM, "unit meter 0 q": api.ETWICE, "unit mph 1 " + long: api.ETWICE, "unit Meter 1 " + long: api.EFORM,
		"unit a 0 " + long: api.EFORM, "unit a x " + long + " y": api.EFORM, "unit a 1 " + long + " y": api.ESIZE, "unit a 1 q y": api.EFORM,
		"unit a 1 foot y": api.EFORM, "unit a 1 celsius y": api.EFORM, "unit a 1 foot-and-inch 5": api.EFORM, "unit a 1 foot 5": api.EOFFSET,
		"unit b 1 pow15-meter\nunit a 1 pow15-b": api.EDIM, "unit b 1 pow15-meter\nunit a 1 pow15-b 5": api.EOFFSET, "unit b 1 pow15-meter\nunit a 1 pow15-b-celsius": api.EOFFSET,
		"unit b 1 pow15-kilometer\nunit a 1 pow7-b": api.EDIM, "unit b 1 pow15-kilometer\nunit a 1 pow6-b": api.ESIZE, "unit b 1 pow15-kilometer\nunit a 1 pow6-b 5": api.EOFFSET,
		"unit b 1 pow15-kilometer\nunit a 0 pow7-b": api.EFORM,
		"quantity A": api.EFORM, "quantity A " + long: api.EFORM, "quantity a " + long: api.ESIZE, "quantity A meter": api.EFORM, "quantity length meter": api.ETWICE,
		"unit b 1 pow15-meter\nquantity a pow7-b": api.EDIM, "unit b 1 pow15-meter\nquantity A pow7-b": api.EFORM,
		"alias meter": api.EFORM, "alias meter " + long: api.ETWICE, "alias per " + long: api.EFORM, "alias a " + long: api.ESIZE, "alias metre metre": api.ETWICE,
	} {
		judges(t, row, want)
	}
}

// TestOffsets looks at what may have an offset, and what may have it in its ID.
func TestOffsets(t *testing.T) {
	for row, want := range map[string]api.Errno{
		"unit a 1 kelvin 5": api.OK, "unit a 1 kelvin 0": api.OK, "unit a 1 kelvin -1/7": api.OK, "unit a 2 meter 5": api.OK,
		"unit a 1 foot 5": api.EOFFSET, "unit a 1 gram 0": api.EOFFSET, "unit a 1 kilokelvin 5": api.EOFFSET, "unit a 1 square-kelvin 5": api.EOFFSET,
		"unit a 1 kelvin-second 5": api.EOFFSET, "unit a 1 kelvin-per-2 5": api.EOFFSET, "unit a 1 kelvin-per-second 0": api.EOFFSET, "unit a 1 per-kelvin 5": api.EOFFSET,
		"unit a 1 per-100 5": api.EOFFSET, "unit a 1 celsius 5": api.EOFFSET, "unit a 1 percent 5": api.EOFFSET, "unit b 1 kelvin\nunit a 1 b 5": api.EOFFSET,
		"unit a 1 celsius": api.EOFFSET, "unit a 1 kilocelsius": api.EOFFSET, "unit a 1 square-fahrenheit": api.EOFFSET, "unit a 1 meter-celsius": api.EOFFSET,
		"unit a 1 meter-per-celsius": api.EOFFSET, "unit a 1 per-second-celsius": api.EOFFSET, "unit a 1 celsius-per-celsius": api.EOFFSET,
		// An offset of 0 is one.
		"unit b 1 kelvin 0\nunit a 1 b": api.EOFFSET, "unit b 1 kelvin 0\nunit a 1 meter-per-7-b": api.EOFFSET,
		// Quantities and aliases may name such units.
		"quantity a square-celsius": api.OK, "quantity a meter-per-fahrenheit": api.OK, "alias a celsius": api.OK, "alias a kilocelsius-per-celsius": api.OK,
	} {
		judges(t, row, want)
	}
	// A name goes before a prefix with a name, so that this is just a base.
	judges(t, "prefix kilogr 10 3\nunit am 1 meter\nunit a 1 kilogram 5", api.OK)
}

func TestBases(t *testing.T) {
	text := ""
	for i := range 8 {
		text += fmt.Sprintf("base b%d q\n", i)
		x := loads(t, text)
		for j := range 8 {
			y, ok := x.Entry(fmt.Sprint("b", j))
			if want := fmt.Sprintf("b%d b%d %d 1 0 false", j, j, j); ok != (j <= i) || ok && entryText(y) != want {
				t.Errorf("Entry(b%d): %s, %v", j, entryText(y), ok)
			}
			v, _ := dims.Base(j)
			if name, ok := x.Quantity(v); ok != (j <= i) || ok && name != "q" {
				t.Errorf("Quantity(%v): %s, %v", v, name, ok)
			}
		}
	}
	refuses(t, text+"base b8 q", api.ESIZE)
	refuses(t, text+"unit c 1 b7\nquantity p per-b7\nbase b8 q", api.ESIZE)
	// Units, too, are counted, but they are no bases.
	x := loads(t, "unit c 1 per-2\nprefix k 2 1\nbase a x\nunit d 1 a\nbase b y")
	if y, _ := x.Entry("b"); y.Base != 1 {
		t.Errorf("Base of b: %d", y.Base)
	}
}

// TestDimensions has dimensions about MaxDim, which a unit and a quantity may
// not exceed, not even on the way, but an alias may.
func TestDimensions(t *testing.T) {
	const some = "base a x\nbase z y\nunit b 1 pow15-a\nunit c 1 pow6-b\n"
	for id, want := range map[string]api.Errno{
		"pow15-b": api.EDIM, "pow7-b": api.EDIM, "pow6-b": api.OK, "c-pow10-a": api.OK, "c-pow11-a": api.EDIM, "per-c-pow10-a": api.OK, "per-c-pow11-a": api.EDIM,
		"per-pow7-b": api.EDIM, "c-c-per-c": api.EDIM, "c-per-c-a": api.OK, "z-pow7-b": api.EDIM, "pow7-b-per-pow7-b": api.EDIM, "per-c-c": api.EDIM, "c-per-pow6-b": api.OK,
	} {
		for _, row := range []string{"unit d 1 ", "unit d 3/5 ", "quantity d "} {
			if want == api.OK {
				loads(t, some+row+id)
				continue
			}
			refuses(t, some+row+id, want)
		}
		loads(t, some+"alias d "+id)
	}
}

// TestSizes has factors with respect to the bases about 100 digits.
func TestSizes(t *testing.T) {
	ten := func(zeros int) string { return "1" + strings.Repeat("0", zeros) }
	const prefixes = "base a x\nprefix most 10 30\nprefix least 10 -30\nprefix k 10 1\nprefix two 2 1\n"
	for rows, want := range map[string]api.Errno{
		"unit b " + ten(99) + " a": api.OK, "unit b " + ten(98) + " ka": api.OK, "unit b " + ten(99) + " ka": api.ESIZE,
		"unit b " + strings.Repeat("9", 100) + " a": api.OK, "unit b " + strings.Repeat("9", 100) + " twoa": api.ESIZE,
		"unit b 1 cubic-mosta": api.OK, "unit b " + ten(9) + " cubic-mosta": api.OK, "unit b " + ten(10) + " cubic-mosta": api.ESIZE, "unit b 1 pow4-mosta": api.ESIZE,
		"unit b 1 cubic-leasta": api.OK, "unit b 1/" + ten(9) + " cubic-leasta": api.OK, "unit b 1/" + ten(10) + " cubic-leasta": api.ESIZE, "unit b 1 pow4-leasta": api.ESIZE,
		"unit b " + ten(20) + " pow4-leasta": api.ESIZE, "unit b " + ten(21) + " pow4-leasta": api.OK, "unit b 1/" + ten(21) + " per-pow4-leasta": api.OK,
		"unit b 1/" + ten(20) + " per-pow4-leasta": api.ESIZE,
		// It is the lowest terms that count, and not what is there on the way.
		"unit b 1 pow15-mosta-pow15-leasta": api.OK, "unit b 1 pow15-mosta-per-pow15-mosta": api.OK, "unit b 1 pow15-mosta-pow12-leasta": api.OK, "unit b 1 pow15-mosta-pow11-leasta": api.ESIZE,
		// Each may be that long, but not the product.
		"unit b " + ten(60) + " a\nunit c 1 b-per-a": api.OK, "unit b " + ten(60) + " a\nunit c 1 b-b": api.ESIZE, "unit b " + ten(60) + " a\nunit c 1 b-b-per-b": api.OK,
		"unit b " + ten(60) + " a\nunit c " + ten(60) + " b": api.ESIZE, "unit b " + ten(60) + " a\nunit c 1/" + ten(60) + " b": api.OK,
		"unit b " + ten(49) + "/3 a\nunit c " + ten(49) + " b": api.OK, "unit b " + ten(50) + "/3 a\nunit c " + ten(50) + " b": api.ESIZE,
		"unit b 1/" + ten(60) + " a\nunit c 1 square-b": api.ESIZE, "unit b 1/" + ten(60) + " a\nunit c 1 per-square-b": api.ESIZE, "unit b 1/" + ten(60) + " a\nunit c 1 a-per-b": api.OK,
		// The number below counts, too.
		"unit b 1/" + ten(80) + " a-per-" + ten(19): api.OK, "unit b 1/" + ten(81) + " a-per-" + ten(19): api.ESIZE, "unit b 1/3 a-per-" + ten(19) + "\nunit c 1/" + ten(79) + " b": api.OK,
		"unit b " + ten(99) + " per-" + ten(19) + "\nunit c " + ten(19) + " b": api.OK, "unit b " + ten(99) + " per-" + ten(19) + "\nunit c " + ten(20) + " b": api.ESIZE,
		// A quantity and an alias have no factor.
		"quantity q pow15-mosta-pow15-mosta": api.OK, "alias q pow15-mosta-pow15-mosta": api.OK,
	} {
		if want == api.OK {
			loads(t, prefixes+rows)
			continue
		}
		refuses(t, prefixes+rows, want)
	}
}

// TestLongFactors looks that factors that are very long on the way, and cancel,
// don't take long.
func TestLongFactors(t *testing.T) {
	text := "base m length\n"
	for i := range 8 {
		n := strings.Repeat(fmt.Sprintf("%d73", i+1), 16)
		text += fmt.Sprintf("unit c%d %s1/%s7 per-2\nunit a%d %s3/%s9 c%d\n", i, n, n, i, n, n, i)
	}
	rest := "pow15-a1-pow15-a2-pow15-a3-pow15-a4-per-pow15-a1-pow15-a2-pow15-a3-pow15-a4"
	for i := range 400 {
		text += fmt.Sprintf("unit x%d 1 %s\n", i, rest)
	}
	x := loads(t, text)
	if v, ok := x.Vec(parses(t, x, "x399").Parts[0]); !ok || v != (dims.V{}) {
		t.Errorf("Vec: %v, %v", v, ok)
	}
}

// TestQuantitiesTwice looks at dimensions that have a name.
func TestQuantitiesTwice(t *testing.T) {
	for row, want := range map[string]api.Errno{
		"quantity a meter": api.ETWICE, "quantity length foot": api.ETWICE, "quantity a celsius": api.ETWICE, "quantity a kilofoot-per-second": api.ETWICE,
		"quantity a newton-per-percent": api.ETWICE, "quantity a square-meter-per-meter": api.ETWICE, "quantity a per-percent\nquantity b inch-per-foot": api.ETWICE,
		"quantity area square-meter\nquantity a square-foot": api.ETWICE, "quantity area square-meter\nquantity area meter-foot": api.ETWICE,
		"quantity a per-meter": api.OK, "quantity a second-per-meter": api.OK, "quantity a percent": api.OK, "quantity length cubic-meter": api.OK,
	} {
		judges(t, row, want)
	}
}

// compare fails the test unless a table answers as its model does.
func compare(t *testing.T, x *table.Table, m *model) {
	t.Helper()
	if k := x.Known(); !slices.Equal(k.Names, m.names) || !slices.Equal(k.Prefixes, m.prefixes) {
		t.Errorf("Known: %v, want %v", k, m.known())
	}
	for _, name := range words {
		u, isUnit := m.units[name]
		want := fmt.Sprintf("%s %s %d %s %s %v", name, u.id, u.base, u.factor, u.offset, u.hasOffset)
		if y, ok := x.Entry(name); ok != isUnit || ok && entryText(y) != want || !ok && !isNoEntry(y) {
			t.Errorf("Entry(%s): %s, %v, want %s", name, entryText(y), ok, want)
		}
		p := unit.Part{Num: []atom.Atom{plain(name, 1)}, Const: nat.Of(1)}
		if v, ok := x.Vec(p); ok != isUnit || v != u.vec {
			t.Errorf("Vec(%s): %v, %v, want %v", name, v, ok, u.vec)
		}
		if q, ok := x.Factor(p); ok != isUnit || ok && rat.Text(q) != u.whole.RatString() {
			t.Errorf("Factor(%s): %s, %v, want %v", name, rat.Text(q), ok, u.whole)
		}
		if name, ok := x.Quantity(u.vec); ok != (m.quantities[u.vec] != "") || name != m.quantities[u.vec] {
			t.Errorf("Quantity(%v): %s, want %s", u.vec, name, m.quantities[u.vec])
		}
		value, isPrefix := m.values[name]
		if q, ok := x.Prefix(name); ok != isPrefix || ok && rat.Text(q) != value.RatString() || !ok && rat.Sign(q) != 0 {
			t.Errorf("Prefix(%s): %s, %v", name, rat.Text(q), ok)
		}
		if id, ok := x.Alias(name); ok != (m.aliases[name] != "") || id != m.aliases[name] {
			t.Errorf("Alias(%s): %s, %v", name, id, ok)
		}
	}
	for v, want := range m.quantities {
		if name, ok := x.Quantity(v); !ok || name != want {
			t.Errorf("Quantity(%v): %s, want %s", v, name, want)
		}
	}
}

// compareParse fails the test unless a table reads an id as its model does.
func compareParse(t *testing.T, x *table.Table, m *model, id string) {
	t.Helper()
	list := strings.Split(id, "-")
	for i, word := range list {
		if m.aliases[word] != "" {
			list[i] = m.aliases[word]
		}
	}
	want, wantError := unit.Parse(m.known(), strings.Join(list, "-"))
	u, e := x.Parse(id)
	if e != wantError || !reflect.DeepEqual(u, want) {
		t.Errorf("Parse(%s): %s, error %d, want %s, error %d", id, unit.Show(u), e, unit.Show(want), wantError)
	}
	if e != api.OK {
		return
	}
	v, ok := x.Vec(u.Parts[0])
	if wantVec, wantOk := m.vec(u.Parts[0]); ok != wantOk || v != wantVec {
		t.Errorf("Vec(%s): %v, %v, want %v, %v", id, v, ok, wantVec, wantOk)
	}
	if q, ok := x.Factor(u.Parts[0]); !ok || rat.Text(q) != m.factor(u.Parts[0]).RatString() {
		t.Errorf("Factor(%s): %s, %v, want %s", id, rat.Text(q), ok, m.factor(u.Parts[0]).RatString())
	}
}

// words are the names that are tried. Some are also a prefix and a name, and some
// may not be names at all.
var words = []string{
	"a", "b", "c", "d", "e", "f", "g", "h", "i", "j", "k", "l", "m", "n", "ka", "kb", "kc", "kk", "la", "lb", "lkk", "a1", "b1", "c1", "d1", "e1", "per", "square", "7",
}

// tried makes rows by choosing among words, more often such that may be right.
type tried struct {
	*rand.Rand
	m *model
}

func (r tried) of(l ...string) string { return l[r.Intn(len(l))] }

// unitWord returns the word of a unit, which is most often there.
func (r tried) unitWord() string {
	if len(r.m.names) == 0 || r.Intn(9) == 0 {
		return r.of(words...)
	}
	return r.of("", "", "", "k", "l", "kk") + r.of(r.m.names...)
}

func (r tried) id() string {
	var l []string
	for range 1 + r.Intn(4) {
		l = append(l, r.of("", "", "", "square", "pow15", "pow7", "cubic"), r.unitWord())
	}
	if r.Intn(3) == 0 {
		l = slices.Insert(l, 2*r.Intn(len(l)/2), "per")
	}
	if r.Intn(9) == 0 {
		l = append(l, r.of("per", "and", "7", "per-7", "and-a", "per-9999999999"))
	}
	l = slices.DeleteFunc(l, func(s string) bool { return s == "" })
	return strings.Join(l, "-")
}

func (r tried) fraction() string {
	return r.of("1", "2", "1/2", "3/7", "10/4", "1000000007", "0", "-1", "1/0", "x", strings.Repeat("7", 60), "1/"+strings.Repeat("3", 60), strings.Repeat("0", 101))
}

func (r tried) row() []string {
	w := []string{"other", "a"}
	switch name, quantity := r.of(words...), r.of("p", "q", "p-q", "P", "p-"); r.Intn(12) {
	case 0:
		w = []string{"base", name, quantity}
	case 1:
		w = []string{"prefix", r.of("k", "l", "kk", "a", "per"), r.of("10", "2", "3"), r.of("1", "-2", "30", "-30", "31", "0")}
	case 2, 3, 4, 5:
		w = []string{"unit", name, r.fraction(), r.id()}
	case 6:
		w = []string{"unit", name, r.fraction(), r.id(), r.fraction()}
	case 7:
		w = []string{"unit", name, r.fraction(), r.unitWord(), r.fraction()}
	case 8, 9:
		w = []string{"quantity", quantity, r.id()}
	case 10:
		w = []string{"alias", name, r.id()}
	}
	if r.Intn(30) == 0 {
		w = append(w, "1")
	}
	return w
}

// TestAgainstModel grows tables row by row. Each row that is tried must have the
// error that the model tells, and if it has none, it stays in the table.
func TestAgainstModel(t *testing.T) {
	source := rand.New(rand.NewSource(11))
	count := map[api.Errno]int{}
	for range 150 {
		var l []rows.Row
		m := newModel()
		r := tried{source, m}
		for range 150 {
			w := r.row()
			next := append(slices.Clone(l), rows.Row{Line: len(l) + 100, W: w})
			want := m.add(w)
			count[want]++
			x, line, e := table.Load(next)
			if e != want || (e == api.OK) != (x != nil) || e == api.OK && line != 0 || e != api.OK && line != len(l)+100 {
				t.Fatalf("Load(%v): line %d, error %d, want error %d", next, line, e, want)
			}
			if e != api.OK {
				continue
			}
			l = next
			compare(t, x, m)
			compareParse(t, x, m, r.id())
			compareParse(t, x, m, r.id())
			if t.Failed() {
				t.Fatalf("in %v", next)
			}
		}
	}
	for _, e := range []api.Errno{api.OK, api.EFORM, api.ETWICE, api.ESIZE, api.EOFFSET, api.EDIM} {
		if count[e] < 50 {
			t.Errorf("error %d: only %d rows have it", e, count[e])
		}
	}
}

// guarded returns rows whose lists have spare capacity, and a function that
// reports whether they are as they were.
func guarded(text string) ([]rows.Row, func() bool) {
	fill := func() []rows.Row {
		l := rowsOf(text)
		for i, row := range l {
			l[i].W = append(slices.Grow(slices.Clone(row.W), 4), "spare", "more")[:len(row.W)]
		}
		return append(slices.Grow(l, 2), rows.Row{Line: 77, W: []string{"spare"}})[:len(l)]
	}
	l, was := fill(), fill()
	return l, func() bool {
		for i := range l {
			size := len(l[i].W) + 2
			if !slices.Equal(l[i].W[:size], was[i].W[:size]) || l[i].Line != was[i].Line {
				return false
			}
		}
		return reflect.DeepEqual(l[:len(l)+1], was[:len(was)+1])
	}
}

// TestRowsAreKept looks that the rows are neither changed nor needed any more.
func TestRowsAreKept(t *testing.T) {
	for _, text := range []string{common, common + "unit a 1 foot 5", common + "unit b 1 pow15-kilometer\nalias c b\nunit a 1 pow6-b"} {
		l, isKept := guarded(text)
		x, _, e := table.Load(l)
		if !isKept() {
			t.Errorf("Load has changed the rows")
		}
		for i := range l {
			clear(l[i].W[:cap(l[i].W)])
		}
		clear(l)
		if e == api.OK && told(t, x) != told(t, loads(t, text)) {
			t.Errorf("the table has changed with the rows")
		}
	}
}

// told tells what a table answers.
func told(t *testing.T, x *table.Table) string {
	t.Helper()
	k := x.Known()
	text := fmt.Sprint(k)
	for _, name := range k.Names {
		y, _ := x.Entry(name)
		p := unit.Part{Num: []atom.Atom{plain(name, 1)}, Const: nat.Of(1)}
		v, ok := x.Vec(p)
		factor, _ := x.Factor(p)
		quantity, named := x.Quantity(v)
		text += fmt.Sprint(entryText(y), v, ok, rat.Text(factor), quantity, named)
	}
	for _, name := range k.Prefixes {
		q, ok := x.Prefix(name)
		text += fmt.Sprint(name, rat.Text(q), ok)
	}
	for _, id := range []string{"metre", "mph", "square-kilometer-per-100-second"} {
		old, ok := x.Alias(id)
		u, e := x.Parse(id)
		text += fmt.Sprint(old, ok, unit.Show(u), e)
	}
	return text
}

// scribble writes over a list, its spare capacity too.
func scribble[T any](list []T, over T) {
	list = list[:cap(list)]
	for i := range list {
		list[i] = over
	}
}

func scribbleRat(q rat.Q) {
	scribble(q.P.N.L, 99)
	scribble(q.Q.L, 99)
}

// TestResultsAreNewMemory writes over every list of every result.
func TestResultsAreNewMemory(t *testing.T) {
	x := loads(t, common)
	was := told(t, x)
	for range 2 {
		k := x.Known()
		scribble(append(k.Names, "more"), "scribble")
		scribble(k.Names, "scribble")
		scribble(append(k.Prefixes, "more"), "scribble")
		scribble(k.Prefixes, "scribble")
		for _, name := range loads(t, common).Known().Names {
			y, _ := x.Entry(name)
			other, _ := x.Entry(name)
			factor := rat.Text(y.Factor)
			scribbleRat(y.Offset)
			if rat.Text(y.Factor) != factor {
				t.Errorf("Entry(%s): Factor and Offset share memory", name)
			}
			scribbleRat(y.Factor)
			if rat.Text(other.Factor) != factor {
				t.Errorf("Entry(%s): two results share memory", name)
			}
		}
		for _, name := range []string{"kilo", "milli", "kibi"} {
			q, _ := x.Prefix(name)
			scribble(q.P.N.L, 99)
			if q.P = num.Of(1); name != "milli" && rat.Text(q) != "1" {
				t.Errorf("Prefix(%s): terms share memory", name)
			}
			scribbleRat(q)
		}
		for _, id := range []string{"metre", "mph", "foot", "per-inch", "per-100", "square-kilometer-per-100-second", "metre-and-metre"} {
			u := parses(t, x, id)
			for _, p := range u.Parts {
				factor, _ := x.Factor(p)
				over, other := rat.Q{P: factor.P, Q: nat.Of(1)}, rat.Q{P: num.Of(1), Q: factor.Q}
				under := rat.Text(other)
				scribbleRat(over)
				if rat.Text(other) != under {
					t.Errorf("Factor(%s): terms share memory", id)
				}
				scribbleRat(other)
				if unit.ShowPart(p) != unit.ShowPart(parses(t, x, id).Parts[0]) {
					t.Errorf("Factor(%s) shares memory with its argument", id)
				}
				scribble(p.Num, plain("scribble", 99))
				scribble(p.Den, plain("scribble", 99))
				scribble(p.Const.L, 99)
			}
			scribble(u.Parts, unit.Part{})
		}
	}
	if told(t, x) != was {
		t.Errorf("what was written over results is seen in the table: %s, was %s", told(t, x), was)
	}
}

// TestPartsAreKept looks that Vec and Factor leave their argument as it is, spare
// capacity too.
func TestPartsAreKept(t *testing.T) {
	x := loads(t, common)
	fill := func() unit.Part {
		return unit.Part{
			Num:   append(slices.Grow([]atom.Atom{plain("newton", 3)}, 4), plain("spare", 1))[:1],
			Den:   append(slices.Grow([]atom.Atom{plain("meter", 3), plain("second", 1)}, 4), plain("spare", 1))[:2],
			Const: nat.Of(1 << 40),
		}
	}
	p, was := fill(), fill()
	if v, ok := x.Vec(p); !ok || v != (dims.V{0, 3, -7}) {
		t.Errorf("Vec: %v, %v", v, ok)
	}
	if q, ok := x.Factor(p); !ok || rat.Text(q) != "1/1099511627776" {
		t.Errorf("Factor: %s, %v", rat.Text(q), ok)
	}
	if !reflect.DeepEqual(p.Num[:2], was.Num[:2]) || !reflect.DeepEqual(p.Den[:3], was.Den[:3]) || !reflect.DeepEqual(p, was) {
		t.Errorf("Vec or Factor has changed its argument: %v", p)
	}
}

// TestTablesApart looks that one table knows nothing of another, nor of calls
// that failed.
func TestTablesApart(t *testing.T) {
	a, b := loads(t, "base a x\nprefix k 10 3\nalias z a"), loads(t, "base b y\nunit a 1/2 b")
	was := told(t, a)
	if y, _ := b.Entry("a"); entryText(y) != "a b -1 1/2 0 false" {
		t.Errorf("Entry(a): %s", entryText(y))
	}
	table.Load(rowsOf("base a x\nbase c z\nbase c z"))
	b.Parse("nothing")
	if _, e := b.Parse("z"); e != api.EFORM {
		t.Errorf("Parse of another table's alias: error %d", e)
	}
	if _, e := a.Parse("c"); e != api.EFORM || told(t, a) != was {
		t.Errorf("a table that was refused is seen in another one: error %d", e)
	}
}

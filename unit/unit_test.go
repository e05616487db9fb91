package unit_test

import (
	"fmt"
	"math"
	"regexp"
	"slices"
	"strings"
	"testing"

	"cubit/api"
	"cubit/atom"
	"cubit/nat"
	"cubit/unit"
)

// The forms as the chapters say them, for units of the names a and b and the
// prefix k. They tell what a text should be read as.
const (
	atomForm = `(?:(square|cubic|pow(?:[4-9]|1[0-5]))-)?(k?)([ab])`
	rowForm  = atomForm + `(?:-` + atomForm + `)*`
	// A 1 alone is no number that may stand there, but what begins with 1 is.
	numberForm = `(?:1[0-9]{1,19}|[2-9][0-9]{0,19})`
	partForm   = `(?:` + rowForm + `|(?:` + rowForm + `-)?per-(?:` + numberForm + `|(?:` + numberForm + `-)?` + rowForm + `))`
)

var (
	unitPattern   = regexp.MustCompile(`\A` + partForm + `(?:-and-` + partForm + `)*\z`)
	atomPattern   = regexp.MustCompile(atomForm)
	numberPattern = regexp.MustCompile(`\A` + numberForm + `(?:-|\z)`)
)

var one = nat.Of(1)

// letters is what those forms are for.
func letters() atom.Known {
	return atom.Known{Names: []string{"a", "b"}, Prefixes: []string{"k"}}
}

func common() atom.Known {
	return atom.Known{
		Names:    []string{"meter", "foot", "inch", "yard", "second", "gram", "liter", "item", "pow"},
		Prefixes: []string{"kilo", "milli"},
	}
}

// plain returns atoms of those names without prefix and power.
func plain(names ...string) []atom.Atom {
	var list []atom.Atom
	for _, name := range names {
		list = append(list, atom.Atom{Name: name, Power: 1})
	}
	return list
}

func of(parts ...unit.Part) unit.Unit {
	return unit.Unit{Parts: parts}
}

// product returns a part without denominator.
func product(num ...atom.Atom) unit.Part {
	return unit.Part{Num: num, Const: one}
}

func equalParts(p, q unit.Part) bool {
	return slices.Equal(p.Num, q.Num) && slices.Equal(p.Den, q.Den) && slices.Equal(p.Const.L, q.Const.L)
}

func equal(u, v unit.Unit) bool {
	return slices.EqualFunc(u.Parts, v.Parts, equalParts)
}

// reads fails the test unless s is read as that unit, which is valid and shown
// as s.
func reads(t *testing.T, k atom.Known, s string, want ...unit.Part) {
	t.Helper()
	u, e := unit.Parse(k, s)
	if e != api.OK || !equal(u, of(want...)) {
		t.Errorf("Parse(%q): %v, error %d, want %v", s, u, e, want)
	}
	if got := unit.Show(u); got != s {
		t.Errorf("Show of Parse(%q): %q", s, got)
	}
	if !unit.Good(k, u) {
		t.Errorf("Good of Parse(%q) is false", s)
	}
	for _, p := range u.Parts {
		if !nat.Good(p.Const) {
			t.Errorf("Parse(%q): Const %v is not valid", s, p.Const.L)
		}
	}
	if len(want) == 1 && len(u.Parts) == 1 && unit.ShowPart(u.Parts[0]) != s {
		t.Errorf("ShowPart of Parse(%q): %q", s, unit.ShowPart(u.Parts[0]))
	}
}

// refuses fails the test unless s is refused with that error and no unit.
func refuses(t *testing.T, k atom.Known, s string, want api.Errno) {
	t.Helper()
	if u, e := unit.Parse(k, s); e != want || len(u.Parts) != 0 {
		t.Errorf("Parse(%.300q) of %d bytes: %v, error %d, want error %d", s, len(s), u, e, want)
	}
}

func TestParse(t *testing.T) {
	k := common()
	square := func(prefix, name string) atom.Atom { return atom.Atom{Prefix: prefix, Name: name, Power: 2} }
	reads(t, k, "meter", product(plain("meter")...))
	reads(t, k, "kilometer", product(atom.Atom{Prefix: "kilo", Name: "meter", Power: 1}))
	reads(t, k, "square-kilometer", product(square("kilo", "meter")))
	reads(t, k, "pow15-millipow-pow4-pow-pow",
		product(atom.Atom{Prefix: "milli", Name: "pow", Power: 15}, atom.Atom{Name: "pow", Power: 4}, atom.Atom{Name: "pow", Power: 1}))
	reads(t, k, "foot-square-second-foot", product(plain("foot")[0], square("", "second"), plain("foot")[0]))
	reads(t, k, "meter-per-second", unit.Part{Num: plain("meter"), Den: plain("second"), Const: one})
	reads(t, k, "kilogram-meter-per-square-second-item",
		unit.Part{Num: []atom.Atom{{Prefix: "kilo", Name: "gram", Power: 1}, {Name: "meter", Power: 1}}, Den: []atom.Atom{square("", "second"), {Name: "item", Power: 1}}, Const: one})
	reads(t, k, "per-second", unit.Part{Den: plain("second"), Const: one})
	reads(t, k, "per-100", unit.Part{Const: nat.Of(100)})
	reads(t, k, "meter-per-2", unit.Part{Num: plain("meter"), Const: nat.Of(2)})
	reads(t, k, "per-1000-item", unit.Part{Den: plain("item"), Const: nat.Of(1000)})
	reads(t, k, "liter-per-100-kilometer",
		unit.Part{Num: plain("liter"), Den: []atom.Atom{{Prefix: "kilo", Name: "meter", Power: 1}}, Const: nat.Of(100)})
	reads(t, k, "foot-and-inch", product(plain("foot")...), product(plain("inch")...))
	reads(t, k, "yard-foot-per-10-second-and-foot-and-per-7-and-foot",
		unit.Part{Num: plain("yard", "foot"), Den: plain("second"), Const: nat.Of(10)}, product(plain("foot")...),
		unit.Part{Const: nat.Of(7)}, product(plain("foot")...))
}

// TestConst has the numbers at which something begins or ends: the second word
// of 32 bits, the third one, and the digits of a word.
func TestConst(t *testing.T) {
	k := common()
	for _, digits := range []string{
		"2", "9", "10", "11", "19", "100", "101", "4294967295", "4294967296", "18446744073709551615", "18446744073709551616",
		"10000000000000000000", "99999999999999999999",
	} {
		number, _ := nat.Parse(digits)
		reads(t, k, "per-"+digits, unit.Part{Const: number})
		reads(t, k, "meter-per-"+digits, unit.Part{Num: plain("meter"), Const: number})
		reads(t, k, "per-"+digits+"-meter", unit.Part{Den: plain("meter"), Const: number})
		reads(t, k, "foot-and-inch-per-"+digits+"-meter", product(plain("foot")...), unit.Part{Num: plain("inch"), Den: plain("meter"), Const: number})
		for _, s := range []string{"", digits + "-", "1-"} {
			refuses(t, k, "per-"+s+digits+"-"+digits, api.EFORM)
		}
		for _, s := range []string{
			digits, digits + "-meter", "meter-" + digits, "meter-per-meter-" + digits, "meter-per-meter-" + digits + "-meter",
			"square-" + digits, "per-square-" + digits, "per-" + digits + "-square", digits + "-per-meter", "meter-" + digits + "-per-meter",
			"per-" + digits + "-per", "per-" + digits + "-per-meter", "per-" + digits + "-and", "and-per-" + digits, "per-and-" + digits,
			"per-0" + digits, "per-" + digits + "0000000000000000000a", "per-" + digits + "x", "per-x" + digits, "per--" + digits, "per-+" + digits,
		} {
			refuses(t, k, s, api.EFORM)
		}
	}
	for _, digits := range []string{
		"0", "1", "00", "01", "010", "001", "00000000000000000001", "00000000000000000000", "100000000000000000000", "1.5", "1e3", "-1", "\u0663",
	} {
		for _, s := range []string{"per-" + digits, "meter-per-" + digits, "per-" + digits + "-meter", "meter-per-" + digits + "-meter", "meter-and-per-" + digits} {
			refuses(t, k, s, api.EFORM)
		}
	}
}

func TestParseRefuses(t *testing.T) {
	k := common()
	for _, s := range []string{
		"", "-", "metre", "Meter", "METER", "meters", "kilo", "kilo-meter", "kilokilometer", "meter ", " meter", "meter second", "meter_second",
		"meter-", "-meter", "meter--second", "meter-metre", "metre-meter", "meter\x00", "m\u00e8tre", "\xff", "per\u2010meter",
		"per", "meter-per", "per-per", "per-per-meter", "meter-per-per-second", "meter-per-second-per", "meter-per-second-per-second",
		"per-meter-per", "meter-per-metre", "metre-per-meter", "meter-per-second-metre", "meter-Per-second",
		"and", "and-and", "and-meter", "meter-and", "meter-and-and-meter", "meter-and-metre", "metre-and-meter", "foot-and-inch-and",
		"per-and", "per-and-meter", "and-per", "meter-and-per", "meter-per-and-meter", "meter-per-and-per-meter",
		"square", "square-square-meter", "meter-square", "square-per-meter", "meter-per-square", "square-and-meter", "square-metre",
		"pow4", "pow1-meter", "pow2-meter", "pow3-meter", "pow0-meter", "pow16-meter", "pow04-meter", "squared-meter", "squaremeter",
		"meter2", "2meter", "100-meter", "meter-100",
	} {
		refuses(t, k, s, api.EFORM)
		refuses(t, atom.Known{}, s, api.EFORM)
	}
	for _, s := range []string{"meter", "per-meter", "meter-and-meter", "kilometer"} {
		refuses(t, atom.Known{}, s, api.EFORM)
		refuses(t, atom.Known{Prefixes: []string{"meter", "kilo"}}, s, api.EFORM)
	}
	reads(t, atom.Known{}, "per-100", unit.Part{Const: nat.Of(100)})
}

// row returns the text of so many atoms.
func row(size int) string {
	return strings.Repeat("-a", size)[min(1, size):]
}

// TestTheLimits has every number of atoms above and below and every number of
// parts, about the limits.
func TestTheLimits(t *testing.T) {
	k := letters()
	for above := range 2*api.MaxAtoms + 1 {
		for below := range 2*api.MaxAtoms + 1 {
			for _, number := range []uint64{1, 12} {
				s := strings.TrimPrefix(row(above)+"-per", "-")
				if number > 1 {
					s += "-12"
				}
				if below > 0 {
					s += "-" + row(below)
				}
				want := unit.Part{Num: plain(slices.Repeat([]string{"a"}, above)...), Den: plain(slices.Repeat([]string{"a"}, below)...), Const: nat.Of(number)}
				switch {
				case below == 0 && number == 1 || above+below > api.MaxAtoms:
					refuses(t, k, s, api.EFORM)
					refuses(t, k, "b-and-"+s, api.EFORM)
					refuses(t, k, s+"-and-b", api.EFORM)
				default:
					reads(t, k, s, want)
					reads(t, k, "b-and-"+s, product(plain("b")...), want)
					reads(t, k, s+"-and-b", want, product(plain("b")...))
				}
			}
		}
		if above > 0 && above <= api.MaxAtoms {
			reads(t, k, row(above), product(plain(slices.Repeat([]string{"a"}, above)...)...))
		} else {
			refuses(t, k, row(above), api.EFORM)
		}
	}
	for count := 1; count < 20; count++ {
		for _, p := range []struct {
			text string
			part unit.Part
		}{
			{"a", product(plain("a")...)},
			{"per-7", unit.Part{Const: nat.Of(7)}},
			{row(8), product(plain("a", "a", "a", "a", "a", "a", "a", "a")...)},
			{"a-a-a-a-per-9-b-b-b-b", unit.Part{Num: plain("a", "a", "a", "a"), Den: plain("b", "b", "b", "b"), Const: nat.Of(9)}},
		} {
			s := strings.TrimSuffix(strings.Repeat(p.text+"-and-", count), "-and-")
			switch {
			case len(s) > api.MaxText:
				refuses(t, k, s, api.ESIZE)
			case count > api.MaxParts:
				refuses(t, k, s, api.EFORM)
			default:
				reads(t, k, s, slices.Repeat([]unit.Part{p.part}, count)...)
			}
		}
	}
}

// TestTheSize has texts about MaxText, which are refused for their size first.
func TestTheSize(t *testing.T) {
	long, short := strings.Repeat("x", 20), strings.Repeat("y", 12)
	k := atom.Known{Names: []string{long, short, short + "y"}}
	six := plain(slices.Repeat([]string{long}, 6)...)
	first := unit.Part{Num: six, Den: six[:2], Const: nat.Of(3456)}
	u := of(first, product(plain(long, long, long, short)...))
	s := unit.Show(u)
	if len(s) != api.MaxText {
		t.Fatalf("%q has %d bytes", s, len(s))
	}
	reads(t, k, s, u.Parts...)
	refuses(t, k, s[:len(s)-1], api.EFORM)
	// It is the text that counts, not whether its words are those of a unit.
	refuses(t, k, s+"y", api.ESIZE)
	longer := of(first, product(plain(long, long, long, short+"y")...))
	if unit.Show(longer) != s+"y" || unit.Good(k, longer) {
		t.Errorf("Good of %q is true", unit.Show(longer))
	}
	for _, part := range []string{"?", "-", "a", "a-", "A", "\xff", "\u00e9", "and-", "per-", "1-"} {
		refuses(t, letters(), strings.Repeat(part, api.MaxText/len(part)), api.EFORM)
		refuses(t, letters(), strings.Repeat(part, api.MaxText/len(part)+1), api.ESIZE)
		refuses(t, letters(), strings.Repeat(part, 1<<16), api.ESIZE)
	}
}

// wanted is what a text should be read as, from those forms.
func wanted(s string) (unit.Unit, bool) {
	if !unitPattern.MatchString(s) {
		return unit.Unit{}, false
	}
	var u unit.Unit
	for text := range strings.SplitSeq(s, "-and-") {
		above, below, _ := strings.Cut("-"+text, "-per-")
		number := numberPattern.FindString(below)
		p := unit.Part{Num: wantedAtoms(above), Den: wantedAtoms(below[len(number):]), Const: one}
		if number != "" {
			p.Const, _ = nat.Parse(strings.TrimSuffix(number, "-"))
		}
		if len(p.Num)+len(p.Den) > 8 {
			return unit.Unit{}, false
		}
		u.Parts = append(u.Parts, p)
	}
	return u, len(u.Parts) <= 4
}

func wantedAtoms(text string) []atom.Atom {
	var list []atom.Atom
	for _, match := range atomPattern.FindAllStringSubmatch(text, -1) {
		power := map[string]int{"": 1, "square": 2, "cubic": 3, "pow4": 4, "pow15": 15}[match[1]]
		list = append(list, atom.Atom{Prefix: match[2], Name: match[3], Power: power})
	}
	return list
}

// lists calls do with all lists of one to so many of the words.
func lists(most int, words []string, do func(l []string)) {
	var grow func(l []string)
	grow = func(l []string) {
		for _, word := range words {
			longer := append(l, word)
			do(longer)
			if len(longer) < most {
				grow(longer)
			}
		}
	}
	grow(make([]string, 0, most))
}

// TestParseOfAllLists reads all short lists of words.
func TestParseOfAllLists(t *testing.T) {
	k := letters()
	good := 0
	check := func(l []string) {
		if t.Failed() {
			return
		}
		s := strings.Join(l, "-")
		if want, ok := wanted(s); ok {
			good++
			reads(t, k, s, want.Parts...)
		} else {
			refuses(t, k, s, api.EFORM)
		}
	}
	lists(5, []string{"a", "kb", "square", "pow15", "per", "and", "1", "12", "x"}, check)
	lists(9, []string{"a", "per", "and", "7"}, check)
	lists(11, []string{"b", "per", "and"}, check)
	if good < 1000 {
		t.Errorf("only %d lists are those of units", good)
	}
}

// TestParseOfOddKnown has names and prefixes that a valid Known does not have.
func TestParseOfOddKnown(t *testing.T) {
	k := atom.Known{
		Names:    []string{"per", "and", "square", "cubic", "pow4", "1", "0", "01", "100", "a", "a", "", "a-b", "A"},
		Prefixes: []string{"k", "", "per", "square"},
	}
	reads(t, k, "a", product(plain("a")...))
	reads(t, k, "k", product(atom.Atom{Prefix: "k", Power: 1}))
	reads(t, k, "ka", product(atom.Atom{Prefix: "k", Name: "a", Power: 1}))
	reads(t, k, "square-square", product(atom.Atom{Name: "square", Power: 2}))
	reads(t, k, "pow4-cubic", product(atom.Atom{Name: "cubic", Power: 4}))
	reads(t, k, "1", product(plain("1")...))
	reads(t, k, "100", product(plain("100")...))
	reads(t, k, "100-100-per-100", unit.Part{Num: plain("100", "100"), Const: nat.Of(100)})
	// A number is taken first, but 1, 0 and 01 are none.
	reads(t, k, "per-100", unit.Part{Const: nat.Of(100)})
	reads(t, k, "per-100-100", unit.Part{Den: plain("100"), Const: nat.Of(100)})
	reads(t, k, "per-1", unit.Part{Den: plain("1"), Const: one})
	reads(t, k, "per-1-100", unit.Part{Den: plain("1", "100"), Const: one})
	reads(t, k, "per-0-01", unit.Part{Den: plain("0", "01"), Const: one})
	reads(t, k, "perper", product(atom.Atom{Prefix: "per", Name: "per", Power: 1}))
	for _, s := range []string{"per", "and", "per-per", "per-per-per", "and-and", "square-per", "square-and", "square", "cubic", "pow4", "a-b", "A", "", "a--a", "a-"} {
		refuses(t, k, s, api.EFORM)
	}
	// What the list has is not what these are read as.
	for _, u := range []unit.Unit{
		of(unit.Part{Den: plain("100"), Const: one}), of(product(plain("per")...)), of(product(plain("square")...)),
		of(product(plain("square", "square")...)), of(product(plain("")...)), of(product(plain("a-b")...)), of(product(plain("A")...)),
		of(product(atom.Atom{Prefix: "", Name: "ka", Power: 1})), of(product(plain("k")...)),
	} {
		if unit.Good(k, u) {
			t.Errorf("Good of %v is true", u)
		}
	}
}

// noUnits returns what is not valid for the names and prefixes of common.
func noUnits() []unit.Unit {
	m := plain("meter")
	list := []unit.Unit{
		{}, of([]unit.Part{}...), of(unit.Part{}), of(unit.Part{Const: one}), of(product(m...), unit.Part{Const: one}), of(unit.Part{Const: one}, product(m...)),
		of(product(plain("metre")...)), of(product(plain("")...)), of(product(plain("kilometer")...)), of(product(plain("kilo")...)),
		of(product(atom.Atom{Prefix: "kilo", Power: 1})), of(product(atom.Atom{Prefix: "kilom", Name: "eter", Power: 1})),
		of(product(atom.Atom{Prefix: "kil", Name: "ometer", Power: 1})), of(product(atom.Atom{Prefix: "mega", Name: "meter", Power: 1})),
		of(product(atom.Atom{Prefix: "square-", Name: "meter", Power: 1})), of(product(atom.Atom{Prefix: "square-kilo", Name: "meter", Power: 1})),
		// Each of these is shown as a valid unit is.
		of(product(plain("square-meter")...)), of(product(plain("meter-second")...)), of(product(plain("meter-per-second")...)),
		of(product(plain("meter-and-second")...)), of(product(plain("meter", "per", "second")...)), of(product(plain("meter", "and", "second")...)),
		of(product(plain("per", "100")...)), of(product(plain("per-100")...)), of(unit.Part{Num: m, Den: plain("100", "second"), Const: one}),
		of(unit.Part{Den: plain("7"), Const: one}), of(unit.Part{Den: plain("7-meter"), Const: one}), of(product(plain("square", "meter")...)),
		of(unit.Part{Den: plain("meter", "and", "meter"), Const: one}), of(unit.Part{Den: plain("meter-and-meter"), Const: one}),
		of(unit.Part{Num: plain("meter-per-second"), Den: nil, Const: one}),
		// These are shown as no unit is.
		of(unit.Part{Num: plain("meter-per-second"), Den: m, Const: one}), of(unit.Part{Den: plain("1", "meter"), Const: one}),
		of(product(plain("meter", "100")...)), of(product(plain("")[0], m[0])), of(product(m[0], plain("")[0])),
		of(product(m...), unit.Part{}), of(unit.Part{}, product(m...)), of(product(m...), unit.Part{Const: one}, product(m...)),
	}
	// What can't stand above can't stand below either.
	for _, u := range list {
		for _, p := range u.Parts {
			if len(p.Num) > 0 && !slices.Equal(p.Num, m) {
				list = append(list, of(unit.Part{Den: p.Num, Const: one}), of(unit.Part{Num: m, Den: p.Num, Const: nat.Of(100)}))
			}
		}
	}
	for _, power := range []int{0, -1, 16, 17, 257, math.MaxInt, math.MinInt} {
		a := atom.Atom{Name: "meter", Power: power}
		list = append(list, of(product(a)), of(product(m[0], a)), of(product(a, m[0])), of(product(m...), product(a)),
			of(unit.Part{Den: []atom.Atom{a}, Const: one}), of(unit.Part{Den: []atom.Atom{m[0], a}, Const: nat.Of(2)}))
	}
	// 0, what is not valid, and what has more than 20 digits.
	for _, words := range [][]uint32{
		nil, {}, {0}, {0, 0}, {1, 0}, {100, 0}, {1, 0, 0, 0}, {0, 1, 0}, {0, 0, 0, 1}, {1661992960, 1808227885, 5}, {0, 0, 1 << 31},
	} {
		number := nat.N{L: words}
		list = append(list, of(unit.Part{Num: m, Const: number}), of(unit.Part{Den: m, Const: number}), of(unit.Part{Num: m, Den: m, Const: number}),
			of(unit.Part{Const: number}), of(product(m...), unit.Part{Num: m, Const: number}), of(unit.Part{Num: m, Const: number}, product(m...)))
	}
	nine := slices.Repeat(m, 9)
	list = append(list, of(product(nine...)), of(unit.Part{Den: nine, Const: one}), of(unit.Part{Num: m, Den: nine[:8], Const: one}),
		of(unit.Part{Num: nine[:5], Den: nine[:4], Const: one}), of(product(m...), product(nine...)), of(slices.Repeat([]unit.Part{product(m...)}, 5)...))
	return list
}

func TestGoodIsFalse(t *testing.T) {
	k := common()
	for _, u := range noUnits() {
		if unit.Good(k, u) {
			t.Errorf("Good of %v, which is shown as %q, is true", u, unit.Show(u))
		}
	}
	if limit := nat.Pow(nat.Of(10), 20); !slices.Equal(limit.L, []uint32{1661992960, 1808227885, 5}) {
		t.Errorf("10 to the power of 20 has the words %v", limit.L)
	}
}

// TestGoodOfWhatWasRead holds units against what other names and prefixes make
// of their texts.
func TestGoodOfWhatWasRead(t *testing.T) {
	u := of(product(atom.Atom{Prefix: "k", Name: "am", Power: 2}))
	for _, c := range []struct {
		k    atom.Known
		want bool
	}{
		{atom.Known{Names: []string{"am"}, Prefixes: []string{"k"}}, true},
		{atom.Known{Names: []string{"am", "m"}, Prefixes: []string{"k"}}, true},
		{atom.Known{Names: []string{"am", "m"}, Prefixes: []string{"k", "ka"}}, false},
		{atom.Known{Names: []string{"am", "kam"}, Prefixes: []string{"k"}}, false},
		{atom.Known{Names: []string{"kam"}, Prefixes: []string{"k"}}, false},
		{atom.Known{Names: []string{"am"}}, false},
		{atom.Known{Names: []string{"m"}, Prefixes: []string{"k"}}, false},
		{atom.Known{}, false},
	} {
		if got := unit.Good(c.k, u); got != c.want {
			t.Errorf("Good(%v, %v) is %v", c.k, u, got)
		}
	}
	// Empty lists are as good as those that are nil.
	if !unit.Good(common(), of(unit.Part{Num: []atom.Atom{}, Den: plain("meter"), Const: one}, unit.Part{Num: plain("meter"), Den: []atom.Atom{}, Const: one})) {
		t.Errorf("Good of a unit with empty lists is false")
	}
}

// TestGoodEndsSoon has what is so great that it can't be shown.
func TestGoodEndsSoon(t *testing.T) {
	k := common()
	words := make([]uint32, 1<<24)
	words[len(words)-1] = 1
	m := plain("meter")
	many := slices.Repeat(m, 1<<16)
	name := plain(strings.Repeat("x", 1<<26))
	prefix := []atom.Atom{{Prefix: strings.Repeat("x", 1<<26), Name: "meter", Power: 1}}
	for i, p := range []unit.Part{
		{Num: m, Const: nat.N{L: words}}, {Num: many, Const: one}, {Den: many, Const: one}, {Num: many, Den: many, Const: nat.N{L: words}},
		{Num: slices.Repeat(name, 8), Const: one}, {Den: slices.Repeat(name, 8), Const: one}, {Num: slices.Repeat(prefix, 8), Const: one},
	} {
		if unit.Good(k, of(slices.Repeat([]unit.Part{p}, 4)...)) || unit.Good(k, of(slices.Repeat([]unit.Part{p}, 1<<16)...)) || unit.Good(k, of(product(m...), p)) {
			t.Errorf("Good of number %d is true", i)
		}
	}
}

// TestShow has units that are not valid too: they are shown in the same way.
func TestShow(t *testing.T) {
	m, bad := plain("meter")[0], atom.Atom{Name: "meter", Power: 16}
	for _, c := range []struct {
		p    unit.Part
		want string
	}{
		{product(m), "meter"},
		{product(atom.Atom{Prefix: "kilo", Name: "meter", Power: 2}, m), "square-kilometer-meter"},
		{unit.Part{Num: []atom.Atom{m}, Den: []atom.Atom{m, m}, Const: one}, "meter-per-meter-meter"},
		{unit.Part{Num: []atom.Atom{m}, Den: []atom.Atom{m}, Const: nat.Of(100)}, "meter-per-100-meter"},
		{unit.Part{Num: []atom.Atom{m}, Const: nat.Of(100)}, "meter-per-100"},
		{unit.Part{Den: []atom.Atom{m}, Const: one}, "per-meter"},
		{unit.Part{Const: nat.Of(100)}, "per-100"},
		{unit.Part{Const: one}, ""},
		{unit.Part{}, "per-0"},
		{unit.Part{Num: []atom.Atom{m}}, "meter-per-0"},
		{unit.Part{Den: []atom.Atom{m}}, "per-0-meter"},
		{unit.Part{Num: []atom.Atom{m}, Const: nat.N{L: []uint32{0, 0}}}, "meter-per-0"},
		{unit.Part{Num: []atom.Atom{m}, Const: nat.N{L: []uint32{1, 0}}}, "meter"},
		{unit.Part{Den: []atom.Atom{m}, Const: nat.N{L: []uint32{1, 0, 0}}}, "per-meter"},
		{unit.Part{Num: []atom.Atom{m}, Const: nat.N{L: []uint32{7, 0}}}, "meter-per-7"},
		{unit.Part{Num: []atom.Atom{m}, Const: nat.N{L: []uint32{1, 1}}}, "meter-per-4294967297"},
		{unit.Part{Const: nat.Pow(nat.Of(10), 40)}, "per-1" + strings.Repeat("0", 40)},
		{product(bad), ""},
		{product(bad, bad), "-"},
		{product(bad, m), "-meter"},
		{product(m, bad), "meter-"},
		{product(m, bad, m), "meter--meter"},
		{unit.Part{Num: []atom.Atom{bad}, Den: []atom.Atom{bad}, Const: one}, "-per-"},
		{unit.Part{Den: []atom.Atom{bad, m}, Const: nat.Of(2)}, "per-2--meter"},
		{unit.Part{Den: []atom.Atom{bad}, Const: one}, "per-"},
		{product(plain("")...), ""},
		{product(plain("", "")...), "-"},
		{product(plain("A b", "\xff")...), "A b-\xff"},
		{product(slices.Repeat([]atom.Atom{m}, 100)...), strings.TrimSuffix(strings.Repeat("meter-", 100), "-")},
	} {
		if got := unit.ShowPart(c.p); got != c.want {
			t.Errorf("ShowPart(%v): %q, want %q", c.p, got, c.want)
		}
		for _, u := range []struct {
			unit unit.Unit
			want string
		}{
			{of(c.p), c.want},
			{of(c.p, c.p), c.want + "-and-" + c.want},
			{of(product(m), c.p), "meter-and-" + c.want},
			{of(c.p, product(m), unit.Part{Const: one}), c.want + "-and-meter-and-"},
			{of(slices.Repeat([]unit.Part{c.p}, 9)...), c.want + strings.Repeat("-and-"+c.want, 8)},
		} {
			if got := unit.Show(u.unit); got != u.want {
				t.Errorf("Show(%v): %q, want %q", u.unit, got, u.want)
			}
		}
	}
	if got := unit.Show(unit.Unit{}); got != "" {
		t.Errorf("Show of no parts: %q", got)
	}
}

func TestNorm(t *testing.T) {
	k := atom.Known{Names: []string{"a", "b", "ab", "meter", "second"}, Prefixes: []string{"k", "kilo", "milli"}}
	for s, want := range map[string]string{
		"a": "a", "square-a": "square-a", "b-a": "a-b", "a-a": "square-a", "a-a-a": "cubic-a", "a-square-a": "cubic-a", "cubic-a-a": "pow4-a",
		"a-b-a-b-b-a": "cubic-a-cubic-b", "pow14-a-a": "pow15-a", "pow8-a-pow7-a": "pow15-a", "pow8-a-b-pow7-a": "pow15-a-b",
		"a-a-a-a-a-a-a-a": "pow8-a", "square-b-a": "a-square-b", "b-ab-a": "a-ab-b",
		// By name first, and then by prefix; a prefix makes another unit.
		"ka-a": "a-ka", "b-ka": "ka-b", "kb-a": "a-kb", "ka-a-ka-a-ka": "square-a-cubic-ka", "pow15-a-pow15-ka": "pow15-a-pow15-ka",
		"kilometer-millimeter-meter-kmeter": "meter-kmeter-kilometer-millimeter", "second-kilometer-second": "kilometer-square-second",
		// What is above and what is below are not cancelled.
		"a-per-a": "a-per-a", "b-a-per-b-a": "a-b-per-a-b", "a-a-per-a": "square-a-per-a", "pow15-a-per-a": "pow15-a-per-a",
		"per-b-a-b": "per-a-square-b", "per-100-b-a-b": "per-100-a-square-b", "b-a-per-7": "a-b-per-7", "per-2": "per-2",
		"per-99999999999999999999-a": "per-99999999999999999999-a",
		// Parts stay apart and in their order.
		"b-and-a": "b-and-a", "a-and-a": "a-and-a", "pow15-a-and-a-and-a": "pow15-a-and-a-and-a", "b-a-and-per-b-a-and-b-b-and-per-3-a-a": "a-b-and-per-a-b-and-square-b-and-per-3-square-a",
	} {
		u, _ := unit.Parse(k, s)
		n, e := unit.Norm(u)
		if got := unit.Show(n); e != api.OK || got != want || !unit.Good(k, n) {
			t.Errorf("Norm of %s: %s, error %d, want %s", s, got, e, want)
		}
		if got := unit.Show(u); got != s {
			t.Errorf("Norm has changed %s to %s", s, got)
		}
	}
}

func TestNormRefuses(t *testing.T) {
	k := letters()
	for _, s := range []string{
		"pow15-a-a", "a-pow15-a", "pow15-a-pow15-a", "pow8-a-pow8-a", "pow8-a-b-pow8-a", "pow5-a-pow5-a-pow5-a-a", "pow15-ka-a-ka",
		"per-pow15-a-a", "a-per-pow15-b-b", "per-7-pow8-a-pow8-a", "pow15-a-a-per-pow15-b-b", "pow15-a-a-and-b", "b-and-pow15-a-a",
		"a-and-a-and-a-and-b-per-pow10-b-pow6-b", "pow15-a-pow15-a-pow15-a-pow15-a-pow15-a-pow15-a-pow15-a-pow15-a",
	} {
		u, e := unit.Parse(k, s)
		if e != api.OK {
			t.Fatalf("Parse(%q): error %d", s, e)
		}
		if n, e := unit.Norm(u); e != api.ESIZE || len(n.Parts) != 0 {
			t.Errorf("Norm of %s: %v, error %d", s, n, e)
		}
	}
}

// wantedNorm puts the atoms in order from the words of the chapter.
func wantedNorm(l []atom.Atom) ([]atom.Atom, bool) {
	sums := map[[2]string]int{}
	for _, a := range l {
		sums[[2]string{a.Name, a.Prefix}] += a.Power
	}
	var list []atom.Atom
	for _, name := range []string{"a", "b"} {
		for _, prefix := range []string{"", "k"} {
			power := sums[[2]string{name, prefix}]
			if power > 15 {
				return nil, false
			}
			if power > 0 {
				list = append(list, atom.Atom{Prefix: prefix, Name: name, Power: power})
			}
		}
	}
	return list, true
}

// TestNormOfAllLists has all short lists of words for the one list of a part,
// and some of them for the other one.
func TestNormOfAllLists(t *testing.T) {
	k := letters()
	var others [][]atom.Atom
	lists(2, []string{"a", "kb", "pow8-kb"}, func(l []string) {
		u, _ := unit.Parse(k, strings.Join(l, "-"))
		others = append(others, u.Parts[0].Num)
	})
	lists(5, []string{"a", "ka", "b", "kb", "square-b", "pow7-a", "pow9-ka"}, func(l []string) {
		u, e := unit.Parse(k, strings.Join(l, "-"))
		if e != api.OK {
			t.Fatalf("Parse of %q: error %d", l, e)
		}
		first := u.Parts[0].Num
		checkNorm(t, unit.Part{Num: first, Const: one})
		checkNorm(t, unit.Part{Den: first, Const: one})
		second := others[len(first)*7%len(others)]
		checkNorm(t, unit.Part{Num: first, Den: second, Const: one}, unit.Part{Num: second, Den: first, Const: nat.Of(12)})
	})
}

func checkNorm(t *testing.T, parts ...unit.Part) {
	t.Helper()
	var want []unit.Part
	for _, p := range parts {
		num, numFits := wantedNorm(p.Num)
		den, denFits := wantedNorm(p.Den)
		if !numFits || !denFits {
			if n, e := unit.Norm(of(parts...)); e != api.ESIZE || len(n.Parts) != 0 {
				t.Fatalf("Norm(%v): %v, error %d", parts, n, e)
			}
			return
		}
		want = append(want, unit.Part{Num: num, Den: den, Const: p.Const})
	}
	n, e := unit.Norm(of(parts...))
	if e != api.OK || !equal(n, of(want...)) {
		t.Fatalf("Norm(%v): %v, error %d, want %v", parts, n, e, want)
	}
	if again, e := unit.Norm(n); e != api.OK || !equal(again, n) {
		t.Fatalf("Norm of Norm(%v): %v, error %d, want %v", parts, again, e, n)
	}
}

// TestNormMakesALongerText has a unit whose text is as long as may be, before
// two of its atoms become one that takes more bytes.
func TestNormMakesALongerText(t *testing.T) {
	names := []string{"a", "a"}
	for i := range 11 {
		names = append(names, strings.Repeat("x", 19)+string(rune('a'+i)))
	}
	names = append(names, strings.Repeat("y", 17))
	k := atom.Known{Names: names[1:]}
	u := of(product(plain(names[:8]...)...), product(plain(names[8:]...)...))
	if len(unit.Show(u)) != api.MaxText || !unit.Good(k, u) {
		t.Fatalf("%q of %d bytes is not valid", unit.Show(u), len(unit.Show(u)))
	}
	n, e := unit.Norm(u)
	if got := unit.Show(n); e != api.OK || got != "square-a"+strings.TrimPrefix(unit.Show(u), "a-a") {
		t.Errorf("Norm: %q, error %d", got, e)
	}
}

// TestNothingPanics calls everything with what is not valid.
func TestNothingPanics(t *testing.T) {
	units := noUnits()
	big := atom.Atom{Name: "meter", Power: math.MaxInt}
	small := atom.Atom{Name: "meter", Power: math.MinInt}
	units = append(units, of(product(big, big, big)), of(product(small, small)), of(product(big, small, big)), of(product(slices.Repeat(plain("x", "y"), 1<<16)...)))
	for _, u := range units {
		for _, k := range []atom.Known{{}, common(), {Names: []string{""}, Prefixes: []string{""}}} {
			unit.Good(k, u)
			unit.Parse(k, unit.Show(u))
		}
		for _, p := range u.Parts {
			unit.ShowPart(p)
		}
		if n, e := unit.Norm(u); e != api.OK && (e != api.ESIZE || len(n.Parts) != 0) {
			t.Errorf("Norm: %v, error %d", n, e)
		}
	}
}

// spare returns l with spare capacity that has elements too.
func spare[T any](l []T, more ...T) []T {
	return append(slices.Clone(l), more...)[:len(l)]
}

// roomy returns a unit all of whose lists have spare capacity.
func roomy() unit.Unit {
	extra := plain("spare", "spare")
	number := nat.N{L: spare([]uint32{7, 9}, 3, 3)}
	parts := []unit.Part{
		{Num: spare(plain("b", "a", "b"), extra...), Den: spare(plain("b", "a", "a"), extra...), Const: number},
		{Num: spare(plain("a"), extra...), Den: spare(nil, extra...), Const: nat.N{L: spare([]uint32{1}, 5, 5)}},
	}
	return of(spare(parts, unit.Part{Const: nat.Of(55)})...)
}

// whole tells all that a unit has, its spare capacity too.
func whole(u unit.Unit) string {
	var told strings.Builder
	for _, p := range u.Parts[:cap(u.Parts)] {
		fmt.Fprintln(&told, p.Num[:cap(p.Num)], p.Den[:cap(p.Den)], p.Const.L[:cap(p.Const.L)])
	}
	return told.String()
}

// scribble writes over all that a unit has, one list after the other, and
// looks that each of them changes nothing else.
func scribble(t *testing.T, what string, u unit.Unit) {
	t.Helper()
	for i := range u.Parts {
		p := &u.Parts[i]
		for _, l := range [][]atom.Atom{p.Num, p.Den} {
			before := whole(u)
			count := strings.Count(before, "scribble")
			for j := range l[:cap(l)] {
				l[:cap(l)][j].Name = "scribble"
			}
			if got := strings.Count(whole(u), "scribble"); got != count+cap(l) {
				t.Errorf("%s: lists share memory: %s", what, whole(u))
			}
		}
		words := p.Const.L[:cap(p.Const.L)]
		count := strings.Count(whole(u), "123454321")
		for j := range words {
			words[j] = 123454321
		}
		if got := strings.Count(whole(u), "123454321"); got != count+len(words) {
			t.Errorf("%s: numbers share memory: %s", what, whole(u))
		}
	}
	clear(u.Parts[:cap(u.Parts)])
}

// TestMemory looks that the calls change nothing that they were given, and that
// what they return is new.
func TestMemory(t *testing.T) {
	k := atom.Known{Names: spare([]string{"a", "b"}, "x", "y"), Prefixes: spare([]string{"k"}, "z")}
	known := fmt.Sprint(k.Names[:4], k.Prefixes[:2])
	u := roomy()
	before := whole(u)
	if !unit.Good(k, u) || unit.Show(u) != "b-a-b-per-38654705671-b-a-a-and-a" {
		t.Errorf("%q is not valid", unit.Show(u))
	}
	unit.ShowPart(u.Parts[0])
	n, e := unit.Norm(u)
	if e != api.OK || unit.Show(n) != "a-square-b-per-38654705671-square-a-b-and-a" {
		t.Errorf("Norm: %q, error %d", unit.Show(n), e)
	}
	scribble(t, "Norm", n)
	// One that is in order already is copied too.
	n, _ = unit.Norm(u)
	again, _ := unit.Norm(n)
	ordered := whole(n)
	scribble(t, "Norm of Norm", again)
	if whole(n) != ordered {
		t.Errorf("Norm has returned what it was given: %s", whole(n))
	}
	if whole(u) != before {
		t.Errorf("the calls have changed %s to %s", before, whole(u))
	}
	for _, s := range []string{"a-b-per-a-b", "a-per-7-b-and-b-per-7-a-and-a-and-a", "a", "per-2-and-per-2"} {
		first, _ := unit.Parse(k, s)
		scribble(t, "Parse", first)
		if second, _ := unit.Parse(k, s); unit.Show(second) != s {
			t.Errorf("Parse(%q) is kept: %q", s, unit.Show(second))
		}
	}
	if got := fmt.Sprint(k.Names[:4], k.Prefixes[:2]); got != known {
		t.Errorf("the calls have changed %s to %s", known, got)
	}
	// The lists of an argument may share memory.
	list := plain("b", "a")
	n, e = unit.Norm(of(unit.Part{Num: list, Den: list, Const: one}, unit.Part{Num: list[:1], Den: list[1:], Const: one}))
	if e != api.OK || unit.Show(n) != "a-b-per-a-b-and-b-per-a" || !slices.Equal(list, plain("b", "a")) {
		t.Errorf("Norm: %q, error %d", unit.Show(n), e)
	}
	scribble(t, "Norm of shared lists", n)
}

// TestNothingIsKept looks that a call knows nothing of what another one was
// given.
func TestNothingIsKept(t *testing.T) {
	for range 2 {
		reads(t, letters(), "ka-per-b", unit.Part{Num: []atom.Atom{{Prefix: "k", Name: "a", Power: 1}}, Den: plain("b"), Const: one})
		refuses(t, common(), "ka-per-b", api.EFORM)
		reads(t, atom.Known{Names: []string{"ka", "b"}}, "ka-per-b", unit.Part{Num: plain("ka"), Den: plain("b"), Const: one})
	}
}

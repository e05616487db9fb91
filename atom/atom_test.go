package atom_test

import (
	"fmt"
	"math"
	"regexp"
	"slices"
	"strings"
	"testing"

	"cubit/api"
	"cubit/atom"
)

// The forms as the chapter says them, which tell what a result should be.
var (
	wordForm     = regexp.MustCompile(`\A[a-z0-9]{1,20}\z`)
	reservedForm = regexp.MustCompile(`\A(per|and|square|cubic|(pow)?[0-9]+)\z`)
)

// powers has all power words.
var powers = map[string]int{
	"square": 2, "cubic": 3, "pow4": 4, "pow5": 5, "pow6": 6, "pow7": 7, "pow8": 8, "pow9": 9,
	"pow10": 10, "pow11": 11, "pow12": 12, "pow13": 13, "pow14": 14, "pow15": 15,
}

// notPowers has what only resembles a power word.
var notPowers = []string{
	"", "pow", "pow0", "pow1", "pow2", "pow3", "pow16", "pow17", "pow40", "pow99", "pow150", "pow04", "pow015", "pow4a", "pow4 ",
	" pow4", "pow+4", "pow-4", "pow4.0", "powx", "Pow4", "apow4", "4", "15", "squared", "squar", "Square", "cube", "cubics", "cubic ",
	"\u00b2", "pow\u0664", "pow4\x00", "pow18446744073709551620", "per", "and",
}

// exactly returns a list without spare capacity.
func exactly(l ...string) []string {
	return slices.Clip(l)
}

// wanted is what Parse should return, from the words of the chapter: it tries
// each name, and each prefix beside each name.
func wanted(k atom.Known, l []string) (atom.Atom, int, bool) {
	power, taken := 1, 0
	if len(l) > 0 && powers[l[0]] > 0 {
		power, taken = powers[l[0]], 1
	}
	if taken == len(l) {
		return atom.Atom{}, 0, false
	}
	if slices.Contains(k.Names, l[taken]) {
		return atom.Atom{Name: l[taken], Power: power}, taken + 1, true
	}
	best, found := atom.Atom{}, false
	for _, prefix := range k.Prefixes {
		for _, name := range k.Names {
			if prefix+name == l[taken] && (!found || len(prefix) > len(best.Prefix)) {
				best, found = atom.Atom{Prefix: prefix, Name: name, Power: power}, true
			}
		}
	}
	if !found {
		return atom.Atom{}, 0, false
	}
	return best, taken + 1, true
}

func checkParse(t *testing.T, k atom.Known, l []string) {
	t.Helper()
	want, size, fine := wanted(k, l)
	a, n, ok := atom.Parse(k, l)
	if a != want || n != size || ok != fine {
		t.Errorf("Parse(%.200q, %.200q): %v, %d, %v, want %v, %d, %v", k, l, a, n, ok, want, size, fine)
	}
	if !ok {
		return
	}
	// What was read is shown as it was.
	if got := atom.Show(a); got != strings.Join(l[:n], "-") {
		t.Errorf("Show of Parse(%.200q, %.200q): %.200q", k, l, got)
	}
}

// reads fails the test unless Parse returns that atom and number of words.
func reads(t *testing.T, k atom.Known, l []string, want atom.Atom, size int) {
	t.Helper()
	if a, n, ok := atom.Parse(k, l); a != want || n != size || !ok {
		t.Errorf("Parse(%.200q, %.200q): %v, %d, %v, want %v, %d", k, l, a, n, ok, want, size)
	}
	checkParse(t, k, l)
}

// reject fails the test unless Parse returns zero values and false.
func reject(t *testing.T, k atom.Known, l []string) {
	t.Helper()
	if a, n, ok := atom.Parse(k, l); a != (atom.Atom{}) || n != 0 || ok {
		t.Errorf("Parse(%.200q, %.200q): %v, %d, %v, want none", k, l, a, n, ok)
	}
	checkParse(t, k, l)
}

// subsets returns all lists of up to so many different elements, in any order.
func subsets(most int, elements ...string) [][]string {
	all := [][]string{nil}
	for from, size := 0, 0; size < most; size++ {
		to := len(all)
		for _, list := range all[from:to] {
			for _, element := range elements {
				if !slices.Contains(list, element) {
					all = append(all, append(slices.Clone(list), element))
				}
			}
		}
		from = to
	}
	return all
}

// texts returns what may be a name or a prefix and what may not: every byte
// alone and beside others, every length around the limit, and all that is
// reserved, with one byte more or less.
func texts() []string {
	list := []string{
		"", "meter", "kilo", "k", "per", "pers", "pe", "aper", "per1", "and", "ands", "an", "band", "square", "squares", "squar", "asquare",
		"cubic", "cubics", "cubi", "acubic", "square1", "cubic1", "per-meter", "square-meter", "0", "1", "00", "007", "7", "100", "1a", "a1",
		"0a", "1e3", "99999999999999999999", "00000000000000000000", "po", "ow4", "pows", "powder", "pow4a", "powa4", "pow4-a", "apow4",
		"4pow", "pow4pow4", "powpow", "powpow4", "pow00", "pow04", "pow000004", "pow99999999999999999", "pow00000000000000000",
		"pow999999999999999999", "pow0000000000000000a", "Per", "PER", "Square", "Pow4", "pow+4", "pow-4", "per ", " per", "\u0664",
		"pow\u0664", "\u00b2", "caf\u00e9", "\xff", "\x00",
	}
	for i := range 30 {
		list = append(list, fmt.Sprint("pow", i), fmt.Sprint(i))
	}
	for b := range 256 {
		other := string([]byte{byte(b)})
		list = append(list, other, other+"a", "a"+other, "a"+other+"a", "1"+other, other+"1", "pow"+other, "pow1"+other, "pow"+other+"1")
		for _, s := range []string{"per", "and", "square", "cubic"} {
			list = append(list, s+other, other+s)
		}
	}
	for _, size := range []int{16, 17, 18, 19, 20, 21, 22, 40, 255, 256, 257, 1 << 20} {
		for _, part := range []string{"a", "z", "0", "9", "-", "A"} {
			list = append(list, strings.Repeat(part, size), "pow"+strings.Repeat(part, size))
		}
	}
	return list
}

// TestGoodOfTexts has each text as a name and as a prefix, alone and first,
// last and between in a list.
func TestGoodOfTexts(t *testing.T) {
	for _, s := range texts() {
		want := wordForm.MatchString(s) && !reservedForm.MatchString(s)
		for _, l := range [][]string{{s}, {s, "other", "more"}, {"other", s, "more"}, {"other", "more", s}} {
			for _, k := range []atom.Known{{Names: l}, {Prefixes: l}, {Names: l, Prefixes: l}, {Names: l, Prefixes: exactly("x")}, {Names: exactly("x"), Prefixes: l}} {
				if got := atom.Good(k); got != want {
					t.Errorf("Good(%.200q) is %v", k, got)
				}
			}
		}
	}
}

func TestGood(t *testing.T) {
	for _, c := range []struct {
		names, prefixes []string
		want            bool
	}{
		{nil, nil, true},
		{[]string{}, []string{}, true},
		{[]string{"meter"}, nil, true},
		{nil, []string{"kilo"}, true},
		{[]string{"meter", "gram", "second"}, []string{"kilo", "milli"}, true},
		// What is in both lists does not occur twice in one of them, and neither
		// does a name that is also read as a prefix and a name.
		{[]string{"a"}, []string{"a"}, true},
		{[]string{"gram", "kilogram"}, []string{"kilo"}, true},
		{[]string{"pow", "po"}, []string{"pow", "w4"}, true},
		{[]string{"a", "a"}, nil, false},
		{nil, []string{"a", "a"}, false},
		{[]string{"a", "b", "c", "a"}, []string{"k"}, false},
		{[]string{"a", "b", "c", "b"}, []string{"k"}, false},
		{[]string{"a"}, []string{"k", "m", "m"}, false},
		{[]string{"a"}, []string{"k", "m", "k"}, false},
		{[]string{""}, nil, false},
		{nil, []string{""}, false},
		{[]string{"a", ""}, []string{"k"}, false},
		{[]string{"pow15"}, nil, false},
		{[]string{"pow16"}, nil, false},
		{nil, []string{"pow0"}, false},
		{[]string{"0"}, nil, false},
		{nil, []string{"007"}, false},
	} {
		if got := atom.Good(atom.Known{Names: c.names, Prefixes: c.prefixes}); got != c.want {
			t.Errorf("Good(%q, %q) is %v", c.names, c.prefixes, got)
		}
	}
}

// TestParse has ordinary units, and what is left of the list beyond the atom.
func TestParse(t *testing.T) {
	k := atom.Known{
		Names:    []string{"meter", "gram", "kilogram", "second", "m", "min", "pow", "powder", "squares"},
		Prefixes: []string{"kilo", "k", "da", "d", "milli"},
	}
	reads(t, k, exactly("meter"), atom.Atom{Name: "meter", Power: 1}, 1)
	reads(t, k, exactly("square", "kilometer"), atom.Atom{Prefix: "kilo", Name: "meter", Power: 2}, 2)
	reads(t, k, exactly("cubic", "meter", "per", "second"), atom.Atom{Name: "meter", Power: 3}, 2)
	reads(t, k, exactly("meter", "second"), atom.Atom{Name: "meter", Power: 1}, 1)
	reads(t, k, exactly("meter", "square", "second"), atom.Atom{Name: "meter", Power: 1}, 1)
	reads(t, k, exactly("meter", "nonsense", ""), atom.Atom{Name: "meter", Power: 1}, 1)
	reads(t, k, exactly("square", "meter", "square"), atom.Atom{Name: "meter", Power: 2}, 2)
	// A name is taken before a prefix and a name.
	reads(t, k, exactly("kilogram"), atom.Atom{Name: "kilogram", Power: 1}, 1)
	reads(t, k, exactly("kilokilogram"), atom.Atom{Prefix: "kilo", Name: "kilogram", Power: 1}, 1)
	reads(t, k, exactly("dam"), atom.Atom{Prefix: "da", Name: "m", Power: 1}, 1)
	reads(t, k, exactly("dmin"), atom.Atom{Prefix: "d", Name: "min", Power: 1}, 1)
	// These begin as power words do.
	reads(t, k, exactly("pow"), atom.Atom{Name: "pow", Power: 1}, 1)
	reads(t, k, exactly("pow4", "pow"), atom.Atom{Name: "pow", Power: 4}, 2)
	reads(t, k, exactly("powder"), atom.Atom{Name: "powder", Power: 1}, 1)
	reads(t, k, exactly("square", "squares"), atom.Atom{Name: "squares", Power: 2}, 2)
	for text, power := range powers {
		reads(t, k, exactly(text, "kilometer"), atom.Atom{Prefix: "kilo", Name: "meter", Power: power}, 2)
	}
}

func TestParseRejects(t *testing.T) {
	k := atom.Known{Names: []string{"meter", "gram", "m"}, Prefixes: []string{"kilo", "k", "da", "d"}}
	for _, l := range [][]string{
		nil, {}, {""}, {"", "meter"}, {"metre"}, {"meters"}, {"mete"}, {"Meter"}, {"me-ter"}, {"meter "}, {" meter"}, {"meter\x00"},
		{"kilo"}, {"kilo", "meter"}, {"kk"}, {"kkm"}, {"kkilometer"}, {"meterkilo"}, {"metermeter"}, {"kmeterm"}, {"kilo-meter"}, {"dk"},
		{"per"}, {"per", "meter"}, {"and"}, {"100"}, {"100", "meter"}, {"4"}, {"square-meter"}, {"squaremeter"}, {"pow4meter"},
		{"square", "metre"}, {"square", ""}, {"square", "per", "meter"}, {"square", "100", "meter"}, {"metre", "meter"}, {"\xff"},
		{strings.Repeat("k", 1<<20) + "m"}, {strings.Repeat("m", 1<<20)},
	} {
		reject(t, k, l)
		reject(t, atom.Known{}, l)
	}
	for _, s := range notPowers {
		reject(t, k, exactly(s))
		reject(t, k, exactly(s, "meter"))
		reject(t, k, exactly("square", s, "meter"))
	}
	for first := range powers {
		reject(t, k, exactly(first))
		for second := range powers {
			reject(t, k, exactly(first, second))
			reject(t, k, exactly(first, second, "meter"))
		}
	}
	// Nothing is known, or only one of both.
	reject(t, atom.Known{Names: k.Names}, exactly("kilometer"))
	reject(t, atom.Known{Prefixes: k.Prefixes}, exactly("kilo"))
	reject(t, atom.Known{Prefixes: exactly("kilo", "meter")}, exactly("kilometer"))
	reads(t, atom.Known{Names: exactly("kilometer", "kilo")}, exactly("kilometer"), atom.Atom{Name: "kilometer", Power: 1}, 1)
}

// TestParseTakesTheLongestPrefix has the prefixes in every order, with names
// that leave only some of them.
func TestParseTakesTheLongestPrefix(t *testing.T) {
	for _, prefixes := range subsets(4, "a", "aa", "aaa", "aaaa") {
		for _, names := range subsets(2, "a", "aa", "aab", "aaab", "b") {
			k := atom.Known{Names: names, Prefixes: prefixes}
			for size := range 8 {
				checkParse(t, k, exactly(strings.Repeat("a", size)))
				checkParse(t, k, exactly(strings.Repeat("a", size)+"b"))
			}
		}
	}
	for _, prefixes := range [][]string{{"d", "da", "dam"}, {"dam", "da", "d"}, {"da", "dam", "d"}} {
		k := atom.Known{Names: exactly("m", "am", "x"), Prefixes: prefixes}
		reads(t, k, exactly("dam"), atom.Atom{Prefix: "da", Name: "m", Power: 1}, 1)
		reads(t, k, exactly("damx"), atom.Atom{Prefix: "dam", Name: "x", Power: 1}, 1)
		k.Names = exactly("am", "x")
		reads(t, k, exactly("dam"), atom.Atom{Prefix: "d", Name: "am", Power: 1}, 1)
		k.Names = exactly("m", "am", "dam")
		reads(t, k, exactly("dam"), atom.Atom{Name: "dam", Power: 1}, 1)
	}
}

// TestParseOfAll has all short lists of words by all that may be known of a few
// names and prefixes, with those that may not be.
func TestParseOfAll(t *testing.T) {
	known := subsets(2, "", "a", "b", "ab", "ba", "aab", "square", "pow4", "pow", "per", "4")
	words := subsets(1, "", "a", "b", "aa", "ab", "ba", "aba", "aab", "square", "pow4", "squarea", "asquare", "powpow4", "pow", "per", "4")
	var lists [][]string
	for _, first := range words {
		for _, second := range words {
			lists = append(lists, slices.Concat(first, second))
		}
	}
	lists = append(lists, exactly("square", "square", "square"), exactly("square", "a", "b"), exactly("pow4", "square", "a"))
	for _, names := range known {
		for _, prefixes := range known {
			for _, l := range lists {
				checkParse(t, atom.Known{Names: names, Prefixes: prefixes}, l)
			}
		}
	}
}

// TestParseByWhatIsNotGood has names and prefixes that may not be, and elements
// that are no words: they are taken as they are.
func TestParseByWhatIsNotGood(t *testing.T) {
	odd := atom.Known{
		Names:    []string{"square", "pow4", "per", "and", "100", "x", "x", "A-b", "\xff", strings.Repeat("n", 21), "\u00b5m"},
		Prefixes: []string{"cubic", "pow", "per", "p", "p", " "},
	}
	if atom.Good(odd) {
		t.Errorf("Good(%q)", odd)
	}
	// A power word is one, whatever is known.
	reject(t, odd, exactly("square"))
	reject(t, odd, exactly("pow4"))
	reads(t, odd, exactly("square", "x"), atom.Atom{Name: "x", Power: 2}, 2)
	reads(t, odd, exactly("pow4", "x"), atom.Atom{Name: "x", Power: 4}, 2)
	reads(t, odd, exactly("square", "square"), atom.Atom{Name: "square", Power: 2}, 2)
	reads(t, odd, exactly("square", "square", "x"), atom.Atom{Name: "square", Power: 2}, 2)
	reads(t, odd, exactly("cubic", "pow4"), atom.Atom{Name: "pow4", Power: 3}, 2)
	reads(t, odd, exactly("cubic", "cubicx"), atom.Atom{Prefix: "cubic", Name: "x", Power: 3}, 2)
	reads(t, odd, exactly("cubicsquare"), atom.Atom{Prefix: "cubic", Name: "square", Power: 1}, 1)
	reads(t, odd, exactly("powpow4"), atom.Atom{Prefix: "pow", Name: "pow4", Power: 1}, 1)
	reads(t, odd, exactly("pow100"), atom.Atom{Prefix: "pow", Name: "100", Power: 1}, 1)
	reads(t, odd, exactly("per"), atom.Atom{Name: "per", Power: 1}, 1)
	reads(t, odd, exactly("perper"), atom.Atom{Prefix: "per", Name: "per", Power: 1}, 1)
	reads(t, odd, exactly("and", "x"), atom.Atom{Name: "and", Power: 1}, 1)
	reads(t, odd, exactly("100"), atom.Atom{Name: "100", Power: 1}, 1)
	reads(t, odd, exactly("px"), atom.Atom{Prefix: "p", Name: "x", Power: 1}, 1)
	reads(t, odd, exactly("A-b"), atom.Atom{Name: "A-b", Power: 1}, 1)
	reads(t, odd, exactly("p\xff"), atom.Atom{Prefix: "p", Name: "\xff", Power: 1}, 1)
	reads(t, odd, exactly(" \u00b5m"), atom.Atom{Prefix: " ", Name: "\u00b5m", Power: 1}, 1)
	reads(t, odd, exactly(strings.Repeat("n", 21)), atom.Atom{Name: strings.Repeat("n", 21), Power: 1}, 1)

	// The prefix pow and the name 4 make a power word.
	k := atom.Known{Names: exactly("4", "x"), Prefixes: exactly("pow")}
	reject(t, k, exactly("pow4"))
	reads(t, k, exactly("pow4", "x"), atom.Atom{Name: "x", Power: 4}, 2)
	reads(t, k, exactly("pow4", "pow4"), atom.Atom{Prefix: "pow", Name: "4", Power: 4}, 2)

	// A name or a prefix may be empty.
	empty := atom.Known{Names: exactly("", "m"), Prefixes: exactly("", "k", "km")}
	reads(t, empty, exactly(""), atom.Atom{Power: 1}, 1)
	reads(t, empty, exactly("square", ""), atom.Atom{Power: 2}, 2)
	reads(t, empty, exactly("k"), atom.Atom{Prefix: "k", Power: 1}, 1)
	reads(t, empty, exactly("km"), atom.Atom{Prefix: "km", Power: 1}, 1)
	reads(t, empty, exactly("m"), atom.Atom{Name: "m", Power: 1}, 1)
	reject(t, empty, exactly("x"))
	reject(t, empty, exactly("square"))
	reject(t, atom.Known{Prefixes: exactly("")}, exactly(""))
}

func TestShow(t *testing.T) {
	for text, power := range powers {
		for _, prefix := range []string{"", "kilo"} {
			a := atom.Atom{Prefix: prefix, Name: "meter", Power: power}
			if got, want := atom.Show(a), text+"-"+prefix+"meter"; got != want {
				t.Errorf("Show(%v): %q, want %q", a, got, want)
			}
		}
	}
	for _, c := range []struct {
		a    atom.Atom
		want string
	}{
		{atom.Atom{Name: "meter", Power: 1}, "meter"},
		{atom.Atom{Prefix: "kilo", Name: "meter", Power: 1}, "kilometer"},
		{atom.Atom{Prefix: "kilo", Name: "meter", Power: 2}, "square-kilometer"},
		{atom.Atom{Power: 1}, ""},
		{atom.Atom{Power: 2}, "square-"},
		{atom.Atom{Prefix: "k", Power: 1}, "k"},
		{atom.Atom{Name: "square", Power: 1}, "square"},
		{atom.Atom{Prefix: "A-", Name: "\xff", Power: 3}, "cubic-A-\xff"},
	} {
		if got := atom.Show(c.a); got != c.want {
			t.Errorf("Show(%v): %q, want %q", c.a, got, c.want)
		}
	}
	for _, power := range []int{0, -1, -2, -15, -16, 16, 17, 100, 256 + 2, -256 + 2, 1<<32 + 2, math.MaxInt32, math.MinInt32, math.MaxInt, math.MinInt} {
		if got := atom.Show(atom.Atom{Prefix: "kilo", Name: "meter", Power: power}); got != "" {
			t.Errorf("Show of power %d: %q", power, got)
		}
	}
	if len(powers)+1 != api.MaxPower {
		t.Errorf("there is no word for each power")
	}
}

// TestLess has a list in its order, and holds each two of it against each other.
func TestLess(t *testing.T) {
	var list []atom.Atom
	for _, name := range []string{"", "-", "A", "a", "a\x00", "a-", "aa", "b", "meter", "meters", "\u00b5m", "\xff"} {
		for _, prefix := range []string{"", "K", "k", "kilo", "m", "\xff"} {
			for _, power := range []int{math.MinInt, -1, 0, 1, 2, 15, 16, math.MaxInt} {
				list = append(list, atom.Atom{Prefix: prefix, Name: name, Power: power})
			}
		}
	}
	for i, a := range list {
		for j, b := range list {
			if got := atom.Less(a, b); got != (i < j) {
				t.Errorf("Less(%v, %v) is %v", a, b, got)
			}
		}
	}
}

// roomy returns a copy of l with spare capacity, in which there are words too.
func roomy(l []string) []string {
	return append(slices.Clone(l), "mark", "meter", "square")[:len(l)]
}

// TestArgumentsAreKept looks at the lists and their spare capacity after the
// calls, and at what was returned after the lists have been written over.
func TestArgumentsAreKept(t *testing.T) {
	l := roomy([]string{"square", "kilometer", "second"})
	k := atom.Known{Names: roomy([]string{"second", "meter", "a", "a"}), Prefixes: roomy([]string{"kilo", "k", "b", "b"})}
	lists := [][]string{l[:cap(l)], k.Names[:cap(k.Names)], k.Prefixes[:cap(k.Prefixes)]}
	var before [][]string
	for _, list := range lists {
		before = append(before, slices.Clone(list))
	}
	atom.Good(k)
	atom.Good(atom.Known{Names: k.Names[:3], Prefixes: k.Prefixes[:3]})
	a, n, ok := atom.Parse(k, l)
	for i, list := range lists {
		if !slices.Equal(list, before[i]) {
			t.Errorf("the calls have changed %q to %q", before[i], list)
		}
		for j := range list {
			list[j] = "scribble"
		}
	}
	if a != (atom.Atom{Prefix: "kilo", Name: "meter", Power: 2}) || n != 2 || !ok {
		t.Errorf("Parse: %v, %d, %v", a, n, ok)
	}
}

// TestNothingIsKept looks that a call knows nothing of what another one was
// given.
func TestNothingIsKept(t *testing.T) {
	k := atom.Known{Names: exactly("meter"), Prefixes: exactly("kilo")}
	for range 2 {
		reads(t, k, exactly("kilometer"), atom.Atom{Prefix: "kilo", Name: "meter", Power: 1}, 1)
		reject(t, atom.Known{Names: exactly("gram")}, exactly("kilometer"))
		if !atom.Good(k) || atom.Good(atom.Known{Names: exactly("a", "a")}) {
			t.Errorf("Good of the same lists has changed")
		}
	}
}

// TestMuchIsKnown has so many names and prefixes that they can't be held
// against each other one by one.
func TestMuchIsKnown(t *testing.T) {
	const many = 200000
	k := atom.Known{Names: slices.Repeat([]string{"x"}, many), Prefixes: slices.Repeat([]string{"k"}, many)}
	if a, n, ok := atom.Parse(k, exactly("ky")); a != (atom.Atom{}) || n != 0 || ok {
		t.Errorf("Parse: %v, %d, %v", a, n, ok)
	}
	if a, n, ok := atom.Parse(k, exactly("pow15", "kx")); a != (atom.Atom{Prefix: "k", Name: "x", Power: 15}) || n != 2 || !ok {
		t.Errorf("Parse: %v, %d, %v", a, n, ok)
	}
	for i := range many {
		k.Names[i] = fmt.Sprint("a", i)
		k.Prefixes[i] = fmt.Sprint("b", many-i)
	}
	if !atom.Good(k) {
		t.Errorf("Good of many is false")
	}
	if a, n, ok := atom.Parse(k, exactly("b7a199999")); a != (atom.Atom{Prefix: "b7", Name: "a199999", Power: 1}) || n != 1 || !ok {
		t.Errorf("Parse: %v, %d, %v", a, n, ok)
	}
	k.Names[many-1] = k.Names[0]
	if atom.Good(k) {
		t.Errorf("Good of a name that occurs twice among many is true")
	}
}

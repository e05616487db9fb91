package word_test

import (
	"regexp"
	"slices"
	"strings"
	"testing"

	"cubit/api"
	"cubit/word"
)

// The forms as the chapter says them, which tell what a result should be.
var (
	wordForm   = regexp.MustCompile(`\A[a-z0-9]{1,20}\z`)
	numberForm = regexp.MustCompile(`\A[1-9][0-9]{0,19}\z`)
	nameForm   = regexp.MustCompile(`\A[a-z0-9]{1,20}(-[a-z0-9]{1,20})*\z`)
)

// texts returns what may be a word and what may not: every byte alone and at
// every place beside others, and every length around the limit.
func texts() []string {
	list := []string{
		"", "meter", "square", "pow4", "12", "4294967296", "18446744073709551616", "99999999999999999999", "00", "007",
		"1a", "a1", "-1", "+1", "1.5", "square-meter", "Meter", "m_s", " meter", "meter ", "meter\n", "\u00b5m", "\u0663", "caf\u00e9",
		"cafe\u0301", "\uff41", "1\x00", "\xff\xfe",
	}
	for b := range 256 {
		other := string([]byte{byte(b)})
		list = append(list, other, other+"a", "a"+other, "a"+other+"a", other+"1", "1"+other, "1"+other+"1")
		list = append(list, strings.Repeat("a", 19)+other, other+strings.Repeat("1", 19))
	}
	for _, size := range []int{1, 2, 18, 19, 20, 21, 22, 40, 255, 256, 257, 1 << 20} {
		for _, part := range []string{"a", "z", "0", "1", "9", "-", "A"} {
			list = append(list, strings.Repeat(part, size), "1"+strings.Repeat(part, size-1))
		}
	}
	return list
}

func TestGood(t *testing.T) {
	for _, s := range texts() {
		if want := wordForm.MatchString(s); word.Good(s) != want {
			t.Errorf("Good(%.40q) of %d bytes is not %v", s, len(s), want)
		}
	}
}

func TestNumber(t *testing.T) {
	for _, s := range texts() {
		if want := numberForm.MatchString(s); word.Number(s) != want {
			t.Errorf("Number(%.40q) of %d bytes is not %v", s, len(s), want)
		}
	}
	for s, want := range map[string]bool{
		"1": true, "9": true, "10": true, "100": true, "99999999999999999999": true, "10000000000000000000": true,
		"": false, "0": false, "00": false, "01": false, "100000000000000000000": false, "1a": false, "a1": false, "-1": false, "one": false,
	} {
		if word.Number(s) != want {
			t.Errorf("Number(%q) is not %v", s, want)
		}
	}
}

// refused fails the test if s is not refused with the error that is wanted and
// no list.
func refused(t *testing.T, s string, want api.Errno) {
	t.Helper()
	if l, e := word.Split(s); e != want || len(l) != 0 {
		t.Errorf("Split(%.40q) of %d bytes: %q, error %d, want error %d", s, len(s), l, e, want)
	}
}

// splits fails the test if s is not split into the words that are wanted, or
// these do not make s again.
func splits(t *testing.T, s string, want ...string) {
	t.Helper()
	l, e := word.Split(s)
	if e != api.OK || !slices.Equal(l, want) {
		t.Errorf("Split(%q): %q, error %d, want %q", s, l, e, want)
	}
	if again := word.Join(l); again != s {
		t.Errorf("Join of Split(%q): %q", s, again)
	}
}

func TestSplit(t *testing.T) {
	long := strings.Repeat("z", 20)
	splits(t, "square-meter", "square", "meter")
	splits(t, "meter", "meter")
	splits(t, "0", "0")
	splits(t, "liter-per-100-kilometer", "liter", "per", "100", "kilometer")
	splits(t, "per-per-and-per", "per", "per", "and", "per")
	splits(t, "a-a-a", "a", "a", "a")
	splits(t, long+"-"+long+"-007", long, long, "007")
}

func TestSplitRefuses(t *testing.T) {
	long := strings.Repeat("z", 20)
	for _, s := range []string{
		"", "-", "--", "-a", "a-", "a--b", "-a-b", "a-b-", "A", "a-B", "B-a", "a_b", "a b", "a - b", "a-b\n", "a\u2010b", "a\u2212b",
		"\u00b5-m", "a-\xff", "\x00", long + "z", "a-" + long + "z", long + "z-a", "a-" + long + "z-b",
	} {
		refused(t, s, api.EFORM)
	}
}

// TestSplitOfTexts has texts of every kind alone, first, last and between.
func TestSplitOfTexts(t *testing.T) {
	for _, s := range texts() {
		for _, name := range []string{s, s + "-a", "a-" + s, "a-" + s + "-b"} {
			switch {
			case len(name) > api.MaxText:
				refused(t, name, api.ESIZE)
			case nameForm.MatchString(name):
				splits(t, name, strings.Split(name, "-")...)
			default:
				refused(t, name, api.EFORM)
			}
		}
	}
}

// TestSplitAtTheLimit also has what is wrong in two ways: the size is looked at
// first.
func TestSplitAtTheLimit(t *testing.T) {
	most := strings.Repeat("ab-", 85) + "c"
	splits(t, most, append(slices.Repeat([]string{"ab"}, 85), "c")...)
	splits(t, "a-"+strings.Repeat("a-", 126)+"aa", append(slices.Repeat([]string{"a"}, 127), "aa")...)
	refused(t, most+"c", api.ESIZE)
	refused(t, most+"-", api.ESIZE)
	refused(t, "A"+most, api.ESIZE)
	for _, part := range []string{"-", "a", "A", "\x00", "\xff"} {
		refused(t, strings.Repeat(part, api.MaxText), api.EFORM)
		refused(t, strings.Repeat(part, api.MaxText+1), api.ESIZE)
		refused(t, strings.Repeat(part, 1<<20), api.ESIZE)
	}
	// Bytes count, not letters.
	refused(t, strings.Repeat("\u00e9", api.MaxText/2), api.EFORM)
	refused(t, strings.Repeat("\u00e9", api.MaxText/2+1), api.ESIZE)
}

// TestJoin has elements that are no words too: they are joined as they are.
func TestJoin(t *testing.T) {
	for _, c := range []struct {
		l    []string
		want string
	}{
		{nil, ""},
		{[]string{}, ""},
		{[]string{""}, ""},
		{[]string{"meter"}, "meter"},
		{[]string{"square", "meter"}, "square-meter"},
		{[]string{"a", "", "b"}, "a--b"},
		{[]string{"", ""}, "-"},
		{[]string{"", "a", ""}, "-a-"},
		{[]string{"-", "-"}, "---"},
		{[]string{"A b", "\xff", "\u00b5"}, "A b-\xff-\u00b5"},
		{slices.Repeat([]string{strings.Repeat("x", 30)}, 100), strings.TrimSuffix(strings.Repeat(strings.Repeat("x", 30)+"-", 100), "-")},
	} {
		if got := word.Join(c.l); got != c.want {
			t.Errorf("Join(%q): %q, want %q", c.l, got, c.want)
		}
	}
}

func TestCut(t *testing.T) {
	for _, c := range []struct {
		l    []string
		at   string
		want [][]string
	}{
		{nil, "per", [][]string{{}}},
		{[]string{}, "per", [][]string{{}}},
		{nil, "", [][]string{{}}},
		{[]string{"a"}, "per", [][]string{{"a"}}},
		{[]string{"a", "b"}, "per", [][]string{{"a", "b"}}},
		{[]string{"per"}, "per", [][]string{{}, {}}},
		{[]string{"per", "per"}, "per", [][]string{{}, {}, {}}},
		{[]string{"a", "per", "b", "c"}, "per", [][]string{{"a"}, {"b", "c"}}},
		{[]string{"per", "a"}, "per", [][]string{{}, {"a"}}},
		{[]string{"a", "per"}, "per", [][]string{{"a"}, {}}},
		{[]string{"a", "per", "per", "b"}, "per", [][]string{{"a"}, {}, {"b"}}},
		{[]string{"a", "and", "b", "per", "c", "and", "d"}, "and", [][]string{{"a"}, {"b", "per", "c"}, {"d"}}},
		{[]string{"Per", "pe", "perr", " per", "per "}, "per", [][]string{{"Per", "pe", "perr", " per", "per "}}},
		{[]string{"a", "", "b"}, "", [][]string{{"a"}, {"b"}}},
		{[]string{"a", "", "b"}, "-", [][]string{{"a", "", "b"}}},
		{[]string{"\xff", "a", "\xff"}, "\xff", [][]string{{}, {"a"}, {}}},
	} {
		if got := word.Cut(c.l, c.at); !slices.EqualFunc(got, c.want, slices.Equal[[]string]) {
			t.Errorf("Cut(%q, %q): %q, want %q", c.l, c.at, got, c.want)
		}
	}
}

// lists returns all lists of up to so many of the elements.
func lists(most int, elements ...string) [][]string {
	all := [][]string{nil}
	for from, size := 0, 0; size < most; size++ {
		to := len(all)
		for _, list := range all[from:to] {
			for _, element := range elements {
				all = append(all, append(slices.Clone(list), element))
			}
		}
		from = to
	}
	return all
}

// TestCutOfAllLists puts the lists together again, and looks that none of them
// could be cut further.
func TestCutOfAllLists(t *testing.T) {
	for _, l := range lists(7, "a", "b", "per") {
		var again []string
		for i, list := range word.Cut(l, "per") {
			if slices.Contains(list, "per") {
				t.Fatalf("Cut(%q): %q", l, list)
			}
			if i > 0 {
				again = append(again, "per")
			}
			again = append(again, list...)
		}
		if !slices.Equal(again, l) {
			t.Fatalf("Cut(%q) makes %q", l, again)
		}
	}
}

// scribble writes over a list, its spare capacity too.
func scribble(list []string) {
	whole := list[:cap(list)]
	for i := range whole {
		whole[i] = "scribble"
	}
}

// TestArgumentsAreKept marks the spare capacity of the list and looks at it
// after the calls, and after their results have been written over.
func TestArgumentsAreKept(t *testing.T) {
	for _, l := range lists(5, "a", "per") {
		whole := append(slices.Clone(l), "mark", "per", "mark")
		before := slices.Clone(whole)
		given := whole[:len(l)]
		word.Join(given)
		for _, list := range word.Cut(given, "per") {
			scribble(list)
		}
		if !slices.Equal(whole, before) {
			t.Fatalf("Cut has changed %q to %q", before, whole)
		}
	}
}

func TestResultsAreNewMemory(t *testing.T) {
	for _, l := range lists(6, "a", "per") {
		first, again := word.Cut(l, "per"), word.Cut(l, "per")
		for i := range first {
			scribble(first[i])
			// What is appended to a list must not reach into the next one.
			scribble(append(first[i], "more"))
			for j := i + 1; j < len(first); j++ {
				if !slices.Equal(first[j], again[j]) {
					t.Fatalf("lists %d and %d of Cut(%q) share memory", i, j, l)
				}
			}
		}
	}
	first, _ := word.Split("square-meter")
	scribble(first)
	splits(t, "square-meter", "square", "meter")
}

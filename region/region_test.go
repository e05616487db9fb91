package region_test

import (
	"math/rand"
	"regexp"
	"slices"
	"strconv"
	"strings"
	"testing"

	"cubit/api"
	"cubit/locale"
	"cubit/region"
	"cubit/rows"
)

// The forms as the chapter says them, which tell what a result should be.
var (
	regionForm = regexp.MustCompile(`\A([A-Z]{2}|[0-9]{3})\z`)
	langForm   = regexp.MustCompile(`\A[a-z]{2,3}\z`)
)

// common is a world with deep and flat regions, and rows of other kinds.
const common = "base meter length\nregion 001 019 150\nregion 019 021 US 419\nregion 021 CA\nregion 150 155 039\n" +
	"region 155 DE FR\nregion 039 IT\nregion ZZ AA BB\nlikely en US\nlikely de DE\nlikely gsw CH\nlikely ar 001\nlikely es 419\nunit foot 381/1250 meter\n"

// rowsOf returns the rows of a text.
func rowsOf(t *testing.T, text string) []rows.Row {
	t.Helper()
	l, line, e := rows.Parse(text)
	if e != api.OK {
		t.Fatalf("rows.Parse: line %d, error %d", line, e)
	}
	return l
}

// loads returns the world of a text without a fault.
func loads(t *testing.T, text string) *region.World {
	t.Helper()
	w, line, e := region.Load(rowsOf(t, text))
	if e != api.OK || line != 0 || w == nil {
		t.Fatalf("Load(%.200q): %v, line %d, error %d", text, w, line, e)
	}
	return w
}

// judges fails the test if what is added to common does not have the error that
// is wanted, in its last line.
func judges(t *testing.T, text string, want api.Errno) {
	t.Helper()
	wantLine := 0
	if want != api.OK {
		wantLine = strings.Count(common+text, "\n") + 1
	}
	w, line, e := region.Load(rowsOf(t, common+text))
	if e != want || line != wantLine || (w != nil) != (want == api.OK) {
		t.Errorf("Load with %.200q: %v, line %d, error %d, want line %d, error %d", text, w, line, e, wantLine, want)
	}
}

// refusesWords fails the test if a row of such words, which rows.Parse may never
// make, is not EFORM.
func refusesWords(t *testing.T, words ...string) {
	t.Helper()
	l := []rows.Row{{Line: 4, W: []string{"region", "001", "GB"}}, {Line: -9, W: words}}
	if w, line, e := region.Load(l); w != nil || line != -9 || e != api.EFORM {
		t.Errorf("Load of %.200q: %v, line %d, error %d", words, w, line, e)
	}
}

// chained fails the test if the chain of a place is not that of the words.
func chained(t *testing.T, w *region.World, place, want string) {
	t.Helper()
	if got := strings.Join(w.Chain(place), " "); got != want {
		t.Errorf("Chain(%.80q): %.200s, want %.200s", place, got, want)
	}
}

func TestExample(t *testing.T) {
	chained(t, loads(t, "region 001 US"), "US", "US 001")
}

func TestChain(t *testing.T) {
	w := loads(t, common)
	for place, want := range map[string]string{
		"US": "US 019 001", "CA": "CA 021 019 001", "021": "021 019 001", "019": "019 001", "419": "419 019 001", "DE": "DE 155 150 001",
		"IT": "IT 039 150 001", "AA": "AA ZZ 001", "ZZ": "ZZ 001", "001": "001",
		// Regions of which no row says anything.
		"GB": "GB 001", "CH": "CH 001", "999": "999 001", "000": "000 001", "010": "010 001", "100": "100 001",
		// No regions.
		"": "001", " ": "001", "us": "001", "Us": "001", "U": "001", "USA": "001", "U1": "001", "01": "001", "0001": "001", "1": "001", "US ": "001", " US": "001",
		"US\n": "001", "US-": "001", "US-u-ms-metric": "001", "-u-ms-metric": "001", "u-ms-metric": "001", "en": "001", "en-US": "001", "US 019": "001",
		"\uff35\uff33": "001", "\u0660\u0660\u0661": "001", "\xff\xff": "001", "\u017fS": "001",
	} {
		chained(t, w, place, want)
	}
}

func TestWithin(t *testing.T) {
	w := loads(t, common)
	for _, c := range []struct {
		a, b string
		want bool
	}{
		{"CA", "CA", true}, {"CA", "021", true}, {"CA", "019", true}, {"CA", "001", true}, {"CA", "150", false}, {"CA", "US", false},
		{"019", "CA", false}, {"021", "CA", false}, {"001", "001", true}, {"001", "019", false}, {"001", "US", false}, {"AA", "ZZ", true},
		{"AA", "BB", false}, {"ZZ", "AA", false}, {"GB", "GB", true}, {"GB", "001", true}, {"GB", "019", false},
		{"us", "001", true}, {"us", "us", false}, {"us", "US", false}, {"", "001", true}, {"", "", false}, {"US", "", false}, {"US", "us", false}, {"US", "01", false},
	} {
		if got := w.Within(c.a, c.b); got != c.want {
			t.Errorf("Within(%s, %s): %v", c.a, c.b, got)
		}
	}
}

func TestWhere(t *testing.T) {
	w := loads(t, common)
	for s, want := range map[string]string{
		"en": "US", "de": "DE", "gsw": "CH", "ar": "001", "es": "419", "fr": "001", "zzz": "001", "en-GB": "GB", "en-001": "001", "de-CH": "CH", "fr-CA": "CA",
		"en-u-rg-gbzzzz": "GB", "en-US-u-rg-gbzzzz": "GB", "fr-u-rg-419zzzz": "419", "en-u-mu-kelvin": "US", "fr-u-mu-kelvin": "001",
		"en-u-ms-metric": "001", "en-u-ms-uksystem": "GB", "fr-u-ms-ussystem": "US", "en-GB-u-rg-dezzzz-ms-metric": "001", "es-419-u-ms-uksystem": "GB",
	} {
		x, e := locale.Parse(s)
		if got := w.Where(x); e != api.OK || got != want {
			t.Errorf("Where(%s): %s, error %d, want %s", s, got, e, want)
		}
	}
}

// TestWhereOfOtherLocales has locales that are not valid: the chapter sets no
// condition on them.
func TestWhereOfOtherLocales(t *testing.T) {
	w := loads(t, common)
	for _, c := range []struct {
		x    locale.Locale
		want string
	}{
		{locale.Locale{}, "001"}, {locale.Locale{Lang: "EN"}, "001"}, {locale.Locale{Lang: "en-GB"}, "001"}, {locale.Locale{Lang: "likely"}, "001"},
		{locale.Locale{Lang: "US"}, "001"}, {locale.Locale{Lang: "en", Region: "somewhere"}, "somewhere"}, {locale.Locale{RG: "us"}, "us"},
		{locale.Locale{Lang: "en", MS: "imperial"}, "US"}, {locale.Locale{Lang: "en", MU: "x"}, "US"}, {locale.Locale{MS: "uksystem"}, "GB"},
	} {
		if got := w.Where(c.x); got != c.want {
			t.Errorf("Where(%q): %s, want %s", c.x, got, c.want)
		}
	}
}

// TestEmptyWorlds has worlds of which no row says anything.
func TestEmptyWorlds(t *testing.T) {
	for _, l := range [][]rows.Row{nil, {}, {{}}, {{Line: 1}, {Line: 2, W: []string{"base", "meter", "length"}}}} {
		w, line, e := region.Load(l)
		if w == nil || line != 0 || e != api.OK {
			t.Fatalf("Load(%v): %v, line %d, error %d", l, w, line, e)
		}
		chained(t, w, "US", "US 001")
		chained(t, w, "001", "001")
		chained(t, w, "", "001")
		if !w.Within("US", "001") || w.Within("US", "019") {
			t.Errorf("Within of a world of no rows")
		}
		if got := w.Where(locale.Locale{Lang: "en"}); got != "001" {
			t.Errorf("Where of a world of no rows: %s", got)
		}
	}
}

func TestOtherRowsAreIgnored(t *testing.T) {
	for _, row := range []string{"regions", "Region", "REGION us", "region.", "likel", "likelys en", "prefer region 001", "001 US", "US", "en US", "x likely"} {
		judges(t, row, api.OK)
	}
}

func TestForm(t *testing.T) {
	for _, row := range []string{
		"region", "region 001", "region CH", "region 150", "region us", "region us CH", "region USA CH", "region U CH", "region 01 CH", "region 0150 CH",
		"region 15A CH", "region U1 CH", "region en CH", "region - CH", "region 001 ch", "region 001 CHE", "region 001 C", "region 001 12", "region 001 1234",
		"region 001 C2", "region 001 CH ch", "region 001 CH LI at", "region 001 CH 12 LI", "region 001 US-u-ms-metric", "region u-ms-metric CH",
		"region 001 001", "region 150 001", "region CH 001", "region CA 001", "region 150 CH 001", "region 150 001 CH", "region 001 CH 001 LI",
		"likely", "likely fr", "likely fr FR FR", "likely fr FR x", "likely FR FR", "likely fr fr", "likely Fr FR", "likely f FR", "likely frfr FR", "likely fr FRA",
		"likely fr F", "likely fr 15", "likely fr 1500", "likely fr F1", "likely f1 FR", "likely FR fr", "likely fr-FR FR", "likely - FR", "likely 001 FR", "likely fr fr-FR",
	} {
		judges(t, row, api.EFORM)
	}
	for _, row := range []string{
		"region 001 CH", "region CH LI", "region CH 999", "region 999 CH LI AT", "region GB AB", "region DE 000", "likely fr FR", "likely fr 150", "likely fr 001", "likely fra FR",
		"likely us US", "likely fr US", "likely zz ZZ",
	} {
		judges(t, row, api.OK)
	}
}

// TestFormComesFirst has rows that are wrong in several ways.
func TestFormComesFirst(t *testing.T) {
	for row, want := range map[string]api.Errno{
		"region 001 US ch": api.EFORM, "region 001 US 001": api.EFORM, "region CH CH ch": api.EFORM, "region CH CH 001": api.EFORM, "region ch US": api.EFORM,
		"likely en us": api.EFORM, "likely en": api.EFORM, "likely en US US": api.EFORM,
		// For each child, what is there twice comes before the order, and the children come one by one.
		"region US US": api.ETWICE, "region CA 019": api.ETWICE, "region 019 019": api.ETWICE, "region ZZ ZZ": api.EORDER,
		"region ZZ US ZZ": api.ETWICE, "region ZZ ZZ US": api.EORDER, "region AA CH ZZ US": api.EORDER, "region AA CH US ZZ": api.ETWICE,
		"region CH CH CH": api.EORDER, "region CH LI CH LI": api.EORDER, "region CH LI LI CH": api.ETWICE,
	} {
		judges(t, row, want)
	}
}

func TestTwice(t *testing.T) {
	for _, row := range []string{
		"region 001 US", "region 019 US", "region 150 US", "region 001 019", "region 001 AA", "region 150 CH US", "region 150 CH CH", "region 150 CH LI CH", "region 001 CA",
		"region CH LI\nregion CH LI", "region CH LI\nregion AT LI", "likely en US", "likely en GB", "likely gsw CH", "likely fr FR\nlikely fr FR", "likely fr FR\nlikely fr BE",
	} {
		judges(t, row, api.ETWICE)
	}
	// What is a parent twice is a parent still, and one region may be likely often.
	for _, row := range []string{"region 001 CH\nregion 001 LI", "region US CH\nregion US LI\nregion CH AT", "likely fr US\nlikely it US", "likely us US\nlikely usa US"} {
		judges(t, row, api.OK)
	}
}

func TestOrder(t *testing.T) {
	for _, row := range []string{
		"region CH CH", "region 999 999", "region CH LI CH", "region AA ZZ", "region BB CH ZZ", "region CH LI\nregion LI CH", "region CH LI\nregion LI AT\nregion AT CH",
		"region CH LI\nregion AT CH\nregion LI AT", "region AT CH\nregion LI AT\nregion CH LI", "region AA CH\nregion CH LI\nregion LI ZZ",
	} {
		judges(t, row, api.EORDER)
	}
	// What has been a child of one may hold another: the order of the rows is free.
	for _, row := range []string{"region LI AT\nregion CH LI\nregion 001 CH", "region 001 ZZ\nregion AA CH", "region US ZZ", "region CH ZZ\nregion AA 999", "region CH LI AT", "region CH LI\nregion LI AT"} {
		judges(t, row, api.OK)
	}
}

// TestBytes has every byte in every place of the words.
func TestBytes(t *testing.T) {
	fits := func(form *regexp.Regexp, word string) bool { return form.MatchString(word) && word != "001" }
	for b := range 256 {
		other := string([]byte{byte(b)})
		for _, word := range []string{other, "A" + other, other + "A", "A" + other + "A", "AA" + other, "1" + other, "11" + other, "1" + other + "1", other + "11", "111" + other, "00" + other, "a" + other, "ab" + other, "abc" + other, other + "ab"} {
			for _, c := range []struct {
				words []string
				good  bool
			}{
				{[]string{"region", word, "QQ"}, regionForm.MatchString(word)},
				{[]string{"region", "QQ", word}, fits(regionForm, word)},
				{[]string{"region", "QQ", "RR", word}, fits(regionForm, word)},
				{[]string{"likely", "qq", word}, regionForm.MatchString(word)},
				{[]string{"likely", word, "QQ"}, langForm.MatchString(word)},
			} {
				if !c.good {
					refusesWords(t, c.words...)
				} else if _, line, e := region.Load([]rows.Row{{Line: 7, W: c.words}}); e != api.OK || line != 0 {
					t.Errorf("Load of %q: line %d, error %d", c.words, line, e)
				}
			}
			want := "001"
			if fits(regionForm, word) {
				want = word + " 001"
			}
			chained(t, loads(t, ""), word, want)
		}
	}
}

// TestRowsOfOtherWords has rows that no parsing makes.
func TestRowsOfOtherWords(t *testing.T) {
	for _, word := range []string{"", " ", "US CA", "US\n", "\nUS", "\u00dcS", "\uff35\uff33", "\u0661\u0662\u0663", "\xff", "-u-ms-metric", "US-u-ms-metric", strings.Repeat("US", 1<<18)} {
		refusesWords(t, "region", word, "CH")
		refusesWords(t, "region", "CH", word)
		refusesWords(t, "region", "CH", "LI", word)
		refusesWords(t, "likely", "fr", word)
	}
	for _, word := range []string{"", " ", "en US", "en\n", "\u00e9n", "-en", "en-", "en-GB", "en-u-ms-metric", strings.Repeat("en", 1<<18)} {
		refusesWords(t, "likely", word, "FR")
	}
	refusesWords(t, append([]string{"region", "QQ"}, strings.Fields(strings.Repeat("AA ", 1<<16)+"aa")...)...)
	// The first row that is wrong tells its Line, whatever that is.
	for _, line := range []int{0, -1, 1, 1 << 40} {
		w, got, e := region.Load([]rows.Row{{Line: 9, W: nil}, {Line: 8, W: []string{"likely", "en", "US"}}, {Line: line, W: []string{"likely", "en", "US"}}, {Line: 7, W: []string{"region"}}})
		if w != nil || got != line || e != api.ETWICE {
			t.Errorf("Load: %v, line %d, error %d, want line %d", w, got, e, line)
		}
	}
}

// allRegions returns each region but the world.
func allRegions() []string {
	var list []string
	for a := 'A'; a <= 'Z'; a++ {
		for b := 'A'; b <= 'Z'; b++ {
			list = append(list, string(a)+string(b))
		}
	}
	for n := range 1000 {
		if digits := strconv.Itoa(1000 + n)[1:]; digits != "001" {
			list = append(list, digits)
		}
	}
	return list
}

// TestDeepest puts every region into the next one, in both orders of the rows.
func TestDeepest(t *testing.T) {
	all := append(allRegions(), "001")
	var up []rows.Row
	for i, child := range all[:len(all)-1] {
		up = append(up, rows.Row{Line: i + 1, W: []string{"region", all[i+1], child}})
	}
	down := slices.Clone(up)
	slices.Reverse(down)
	for _, l := range [][]rows.Row{up, down} {
		w, line, e := region.Load(l)
		if e != api.OK {
			t.Fatalf("Load: line %d, error %d", line, e)
		}
		for i, place := range all {
			if !slices.Equal(w.Chain(place), all[i:]) {
				t.Errorf("Chain(%s): %d regions, want %d", place, len(w.Chain(place)), len(all)-i)
			}
		}
		if !w.Within(all[0], all[len(all)-2]) || w.Within(all[len(all)-2], all[0]) {
			t.Errorf("Within of the ends of a chain of %d", len(all))
		}
	}
	// Without the world, the last one is outside, and may not go into the first one.
	open := append(slices.Clone(up[:len(up)-1]), rows.Row{Line: 5000, W: []string{"region", all[0], all[len(all)-2]}})
	if w, line, e := region.Load(open); w != nil || line != 5000 || e != api.EORDER {
		t.Errorf("Load of a ring: line %d, error %d", line, e)
	}
	flat := rows.Row{Line: 1, W: append([]string{"region", "001"}, all[:len(all)-1]...)}
	w, line, e := region.Load([]rows.Row{flat})
	if e != api.OK {
		t.Fatalf("Load of one row of all regions: line %d, error %d", line, e)
	}
	for _, place := range all[:len(all)-1] {
		chained(t, w, place, place+" 001")
	}
}

// model is a world as plain lists: children[p] are those that were put into p.
type model struct {
	children map[string][]string
	likely   map[string]string
}

// holds reports whether a contains b, at any depth.
func (m model) holds(a, b string) bool {
	for _, child := range m.children[a] {
		if child == b || m.holds(child, b) {
			return true
		}
	}
	return false
}

// parent returns the region that b was put into, or the empty string.
func (m model) parent(b string) string {
	for a, list := range m.children {
		if slices.Contains(list, b) {
			return a
		}
	}
	return ""
}

// add returns the error of a row, or adds what it says.
func (m model) add(w []string) api.Errno {
	switch {
	case w[0] == "likely" && (len(w) != 3 || !langForm.MatchString(w[1]) || !regionForm.MatchString(w[2])):
		return api.EFORM
	case w[0] == "likely" && m.likely[w[1]] != "":
		return api.ETWICE
	case w[0] == "likely":
		m.likely[w[1]] = w[2]
		return api.OK
	case w[0] != "region":
		return api.OK
	}
	isNone := func(word string) bool { return !regionForm.MatchString(word) }
	if len(w) < 3 || slices.ContainsFunc(w[1:], isNone) || slices.Contains(w[2:], "001") {
		return api.EFORM
	}
	var added []string
	e := api.OK
	for _, child := range w[2:] {
		if m.parent(child) != "" {
			e = api.ETWICE
		} else if child == w[1] || m.holds(child, w[1]) {
			e = api.EORDER
		}
		if e != api.OK {
			break
		}
		m.children[w[1]] = append(m.children[w[1]], child)
		added = append(added, child)
	}
	if e != api.OK {
		m.children[w[1]] = m.children[w[1]][:len(m.children[w[1]])-len(added)]
	}
	return e
}

// chain returns the chain of a place.
func (m model) chain(place string) []string {
	var list []string
	if regionForm.MatchString(place) {
		for at := place; at != "" && at != "001"; at = m.parent(at) {
			list = append(list, at)
		}
	}
	return append(list, "001")
}

// triedWords are few, so that rows are often wrong.
var triedWords = []string{"AA", "BB", "CC", "DD", "EE", "FF", "GG", "HH", "111", "222", "333", "444", "001", "aa", "bbb", "x", "1111"}

// tried returns a row made by chance, most often of the right form.
func tried(r *rand.Rand) []string {
	of := func(n int) string { return triedWords[r.Intn(n)] }
	switch r.Intn(12) {
	case 0:
		return []string{"likely", of(17), of(17)}
	case 1:
		return []string{"likely", triedWords[13+r.Intn(2)], of(13)}
	case 2:
		return []string{"prefer", of(17), of(17)}
	case 3:
		w := []string{"region"}
		for range r.Intn(5) {
			w = append(w, of(17))
		}
		return w
	}
	w := []string{"region", of(13), of(12)}
	for range r.Intn(3) {
		w = append(w, of(12))
	}
	return w
}

// compare fails the test unless a world answers as its model does.
func compare(t *testing.T, w *region.World, m model) {
	t.Helper()
	for _, a := range triedWords {
		chain := m.chain(a)
		if got := w.Chain(a); !slices.Equal(got, chain) {
			t.Errorf("Chain(%s): %v, want %v", a, got, chain)
		}
		for _, b := range triedWords {
			if got := w.Within(a, b); got != slices.Contains(chain, b) {
				t.Errorf("Within(%s, %s): %v", a, b, got)
			}
		}
		want := m.likely[a]
		if want == "" {
			want = "001"
		}
		if got := w.Where(locale.Locale{Lang: a}); got != want {
			t.Errorf("Where(%s): %s, want %s", a, got, want)
		}
		if got := w.Where(locale.Locale{Lang: "aa", Region: a}); got != a {
			t.Errorf("Where of region %s: %s", a, got)
		}
	}
}

// TestAgainstModel grows worlds row by row. Each row that is tried must have the
// error that the model tells, and if it has none, it stays in the world.
func TestAgainstModel(t *testing.T) {
	r := rand.New(rand.NewSource(15))
	count := map[api.Errno]int{}
	for range 400 {
		var l []rows.Row
		m := model{map[string][]string{}, map[string]string{}}
		for range 40 {
			words := tried(r)
			next := append(slices.Clone(l), rows.Row{Line: len(l) + 100, W: words})
			want, wantLine := m.add(words), 0
			if count[want]++; want != api.OK {
				wantLine = len(l) + 100
			}
			w, line, e := region.Load(next)
			if e != want || line != wantLine || (w != nil) != (want == api.OK) {
				t.Fatalf("Load(%v): %v, line %d, error %d, want line %d, error %d", next, w, line, e, wantLine, want)
			}
			if e != api.OK {
				continue
			}
			l = next
			if compare(t, w, m); t.Failed() {
				t.Fatalf("in %v", next)
			}
		}
	}
	for _, e := range []api.Errno{api.OK, api.EFORM, api.ETWICE, api.EORDER} {
		if count[e] < 500 {
			t.Errorf("error %d: only %d rows have it", e, count[e])
		}
	}
}

// told tells what a world answers of all regions.
func told(w *region.World) string {
	var text strings.Builder
	for _, place := range append(allRegions(), "001", "", "us") {
		text.WriteString(strings.Join(w.Chain(place), " ") + "\n")
	}
	for _, lang := range []string{"en", "de", "gsw", "ar", "es", "fr"} {
		text.WriteString(w.Where(locale.Locale{Lang: lang}) + "\n")
	}
	return text.String()
}

// TestRowsAreKept looks that the rows are neither changed nor needed any more.
func TestRowsAreKept(t *testing.T) {
	for _, more := range []string{"", "region CH LI", "region CH", "region CH LI US", "region CH CH", "likely en US"} {
		fill := func() []rows.Row {
			l := rowsOf(t, common+more)
			for i, row := range l {
				l[i].W = append(slices.Grow(slices.Clone(row.W), 4), "spare", "more")[:len(row.W)]
			}
			return append(slices.Grow(l, 2), rows.Row{Line: 77, W: []string{"spare"}})[:len(l)]
		}
		l, was := fill(), fill()
		w, _, e := region.Load(l)
		for i := range l[:len(l)+1] {
			a, b := l[:len(l)+1][i], was[:len(l)+1][i]
			spare := min(len(a.W)+2, cap(a.W))
			if a.Line != b.Line || len(a.W) != len(b.W) || !slices.Equal(a.W[:spare], b.W[:min(spare, cap(b.W))]) {
				t.Errorf("Load has changed row %d to %v", i, a)
			}
		}
		if e != api.OK {
			continue
		}
		before := told(w)
		for i := range l {
			scribble(l[i].W)
		}
		clear(l[:cap(l)])
		if told(w) != before {
			t.Errorf("the world has changed with the rows")
		}
	}
}

// scribble writes over a list, its spare capacity too.
func scribble(list []string) {
	list = list[:cap(list)]
	for i := range list {
		list[i] = "scribble"
	}
}

// TestResultsAreNewMemory writes over every chain.
func TestResultsAreNewMemory(t *testing.T) {
	w := loads(t, common)
	was := told(w)
	for _, place := range []string{"US", "CA", "DE", "AA", "GB", "001", "us", ""} {
		one, other := w.Chain(place), w.Chain(place)
		want := strings.Join(other, " ")
		scribble(append(one, "more"))
		scribble(one)
		if got := strings.Join(other, " "); got != want {
			t.Errorf("Chain(%s): two results share memory: %s", place, got)
		}
	}
	if told(w) != was {
		t.Errorf("what was written over results is seen in the world")
	}
}

// TestWorldsApart looks that one world knows nothing of another, nor of calls
// that failed, and that asking changes nothing.
func TestWorldsApart(t *testing.T) {
	a, b := loads(t, "region 001 150\nregion 150 FR\nlikely fr FR"), loads(t, "region CA FR\nlikely fr CA")
	wasA, wasB := told(a), told(b)
	region.Load(rowsOf(t, "region 419 150\nlikely fr BE\nlikely fr BE"))
	region.Load(rowsOf(t, "region 419 AR BR AR"))
	a.Within("FR", "CA")
	a.Where(locale.Locale{Lang: "en", Region: "AR"})
	if told(a) != wasA || told(b) != wasB {
		t.Errorf("a world has changed")
	}
	chained(t, a, "FR", "FR 150 001")
	chained(t, b, "FR", "FR CA 001")
	chained(t, a, "AR", "AR 001")
}

// TestLongPlaces has texts of any length: the calls end, and without a limit of
// their own.
func TestLongPlaces(t *testing.T) {
	w := loads(t, common)
	for _, part := range []string{"U", "US", "001", "-", "-u-", "-ms-metric", "\x00", "\u017f"} {
		long := strings.Repeat(part, 1<<18)
		chained(t, w, long, "001")
		if !w.Within(long, "001") || w.Within(long, long) || w.Within("US", long) {
			t.Errorf("Within of a long text of %q", part)
		}
		if got := w.Where(locale.Locale{Lang: long}); got != "001" {
			t.Errorf("Where of a long language of %q: %.80q", part, got)
		}
		if got := w.Where(locale.Locale{Lang: "en", Region: long}); got != long {
			t.Errorf("Where of a long region of %q: %d bytes", part, len(got))
		}
	}
}

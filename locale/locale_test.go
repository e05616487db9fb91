package locale_test

import (
	"regexp"
	"strings"
	"testing"
	"unicode/utf8"

	"cubit/api"
	"cubit/locale"
)

// The forms as the chapter says them, which tell what a result should be.
var (
	identifier = regexp.MustCompile(`\A([a-z]{2,3})(?:-([A-Z]{2}|[0-9]{3}))?` +
		`(?:-u((?:-rg-(?:[a-z]{2}|[0-9]{3})zzzz|-ms-(?:metric|ussystem|uksystem)|-mu-(?:celsius|fahrenhe|kelvin))+))?\z`)
	langForm   = regexp.MustCompile(`\A[a-z]{2,3}\z`)
	regionForm = regexp.MustCompile(`\A([A-Z]{2}|[0-9]{3})?\z`)
	systemForm = regexp.MustCompile(`\A(metric|ussystem|uksystem)?\z`)
	measures   = regexp.MustCompile(`\A(celsius|fahrenhe|kelvin)?\z`)
)

// model returns the locale that s should be, or false.
func model(s string) (locale.Locale, bool) {
	found := identifier.FindStringSubmatch(s)
	if found == nil {
		return locale.Locale{}, false
	}
	x := locale.Locale{Lang: found[1], Region: found[2]}
	fields := map[string]*string{"rg": &x.RG, "ms": &x.MS, "mu": &x.MU}
	words := strings.Split(found[3], "-")
	for i := 1; i < len(words); i += 2 {
		field, value := fields[words[i]], words[i+1]
		if *field != "" {
			return locale.Locale{}, false
		}
		if words[i] == "rg" {
			value = strings.ToUpper(value[:len(value)-4])
		}
		*field = value
	}
	return x, true
}

// modelGood reports whether x should be valid, field by field.
func modelGood(x locale.Locale) bool {
	return langForm.MatchString(x.Lang) && regionForm.MatchString(x.Region) && regionForm.MatchString(x.RG) &&
		systemForm.MatchString(x.MS) && measures.MatchString(x.MU)
}

// modelShow returns the identifier of x, which is valid.
func modelShow(x locale.Locale) string {
	words := []string{x.Lang}
	if x.Region != "" {
		words = append(words, x.Region)
	}
	if x.RG+x.MS+x.MU != "" {
		words = append(words, "u")
	}
	if x.RG != "" {
		words = append(words, "rg", strings.ToLower(x.RG)+"zzzz")
	}
	if x.MS != "" {
		words = append(words, "ms", x.MS)
	}
	if x.MU != "" {
		words = append(words, "mu", x.MU)
	}
	return strings.Join(words, "-")
}

// modelPlace returns the place of x, valid or not.
func modelPlace(x locale.Locale) string {
	fixed := map[string]string{"metric": "001", "ussystem": "US", "uksystem": "GB"}
	if place, ok := fixed[x.MS]; ok {
		return place
	}
	if x.RG != "" {
		return x.RG
	}
	return x.Region
}

// holds fails the test if Good, Show or Place of x is not as it should be.
func holds(t *testing.T, x locale.Locale) {
	t.Helper()
	want := ""
	if modelGood(x) {
		want = modelShow(x)
	}
	if got := locale.Good(x); got != (want != "") {
		t.Errorf("Good(%.200q): %v", x, got)
	}
	if got := locale.Show(x); got != want {
		t.Errorf("Show(%.200q): %q, want %q", x, got, want)
	}
	if got := locale.Place(x); got != modelPlace(x) {
		t.Errorf("Place(%.200q): %q, want %q", x, got, modelPlace(x))
	}
}

// reads fails the test if Parse of s is not as it should be, or what it returns
// is not read back as itself.
func reads(t *testing.T, s string) {
	t.Helper()
	want, ok := model(s)
	wantError := api.EFORM
	if ok {
		wantError = api.OK
	}
	x, e := locale.Parse(s)
	if e != wantError || x != want {
		t.Errorf("Parse(%.80q) of %d bytes: %q, error %d, want %q, error %d", s, len(s), x, e, want, wantError)
		return
	}
	holds(t, x)
	if !ok {
		return
	}
	if again, e := locale.Parse(locale.Show(x)); e != api.OK || again != x {
		t.Errorf("Parse of Show of %q: %q, error %d", x, again, e)
	}
}

func TestParse(t *testing.T) {
	for s, want := range map[string]locale.Locale{
		"en":                {Lang: "en"},
		"zzz":               {Lang: "zzz"},
		"en-GB":             {Lang: "en", Region: "GB"},
		"en-000":            {Lang: "en", Region: "000"},
		"en-ZZ-u-rg-zzzzzz": {Lang: "en", Region: "ZZ", RG: "ZZ"},
		"en-u-rg-419zzzz":   {Lang: "en", RG: "419"},
		"gsw-AT-u-mu-celsius-rg-chzzzz-ms-metric": {Lang: "gsw", Region: "AT", RG: "CH", MS: "metric", MU: "celsius"},
		"gsw-AT-u-mu-kelvin-ms-ussystem":          {Lang: "gsw", Region: "AT", MS: "ussystem", MU: "kelvin"},
		"aa-u-mu-fahrenhe-rg-aazzzz":              {Lang: "aa", RG: "AA", MU: "fahrenhe"},
		"aa-u-ms-uksystem":                        {Lang: "aa", MS: "uksystem"},
	} {
		x, e := locale.Parse(s)
		if x != want || (e == api.OK) != (want.Lang != "") {
			t.Errorf("Parse(%q): %q, error %d, want %q", s, x, e, want)
		}
		reads(t, s)
	}
}

func TestParseRefuses(t *testing.T) {
	for _, s := range []string{
		"", "-", "u", "en-", "-en", "-GB", "GB", "EN", "En", "eN", "engl", "e", "e1", "en_GB", "en--GB", "en-Gb", "en-gb", "en-G1", "en-1G", "en-41a",
		"en-12", "en-1234", "en-GBR", "en-GB-GB", "en-GB-419", "en-Latn", "en-Latn-GB", "en-GB-u", "en-GB-u-", "en-u", "en-u-", "-u-ms-metric",
		"en--u-ms-metric", "en-u--ms-metric", "en-u-u-ms-metric", "en-U-ms-metric", "en-u-MS-metric", "en-u-ms", "en-u-ms-", "en-u-ms--metric",
		"en-u-ms-metric-", "en-u-ms-metric-mu", "en-u-ms-metric-mu-", "en-u-ms-metric--mu-kelvin", "en-u-ms-metric-GB", "en-u-metric",
		"en-u-ms-metric-u-ms-metric", "en-u-ms-metric-u-mu-kelvin", "en-u-ms-Metric", "en-u-ms-metricx", "en-u-ms-xmetric", "en-u-ms-kelvin",
		"en-u-mu-metric", "en-u-mu-fahrenheit", "en-u-mu-kelvi", "en-u-ca-gregory", "en-u-rgg-uszzzz", "en-u-r-uszzzz", "en-u-rg-us",
		"en-u-rg-zzzz", "en-u-rg-zzzzz", "en-u-rg-uszzz", "en-u-rg-uszzzzz", "en-u-rg-uszzzzzz", "en-u-rg-USzzzz", "en-u-rg-UszZzz", "en-u-rg-usZZZZ",
		"en-u-rg-usazzzz", "en-u-rg-41zzzz", "en-u-rg-4199zzzz", "en-u-rg-u1zzzz", "en-u-rg-gbeng", "en-u-rg-metric", "en-u-ms-uszzzz",
		"en-u-ms-metric-ms-metric", "en-u-ms-metric-ms-uksystem", "en-u-rg-uszzzz-rg-uszzzz", "en-u-rg-uszzzz-mu-kelvin-rg-gbzzzz",
		"en-u-mu-kelvin-mu-kelvin", "en-u-rg-uszzzz-ms-metric-mu-kelvin-rg-uszzzz", " en", "en ", "en\n", "en-GB\n", "en-u-ms-metric\n", "en\x00",
		"\u00e9n", "\uff45\uff4e", "en-\uff27\uff22", "en-\u0664\u0661\u0669", "en-u-rg-\u017fszzzz", "en-u-rg-\u0131szzzz", "en-u-rg-\u212azzzz", "en\u2010GB", "\xff\xfe",
	} {
		if x, e := locale.Parse(s); e != api.EFORM || x != (locale.Locale{}) {
			t.Errorf("Parse(%q): %q, error %d", s, x, e)
		}
		reads(t, s)
	}
}

// samples have every kind of word, in several orders.
var samples = []string{
	"en-GB-u-rg-uszzzz-ms-uksystem-mu-fahrenhe", "gsw", "es-419", "es-419-u-mu-kelvin-rg-001zzzz", "gsw-u-ms-metric", "de-DE-u-ms-ussystem-mu-celsius",
}

// TestParseOfSpoiledBytes replaces, adds and drops each byte of identifiers.
func TestParseOfSpoiledBytes(t *testing.T) {
	for _, s := range samples {
		for i := range len(s) + 1 {
			reads(t, s[:i])
			reads(t, s[i:])
			for b := range 256 {
				other := string([]byte{byte(b)})
				reads(t, s[:i]+other+s[i:])
				if i < len(s) {
					reads(t, s[:i]+other+s[i+1:])
				}
			}
			if i < len(s) {
				reads(t, s[:i]+s[i+1:])
			}
		}
	}
}

// TestParseOfWords has all short lists of words, right and wrong ones, alone and
// behind the beginning of an identifier.
func TestParseOfWords(t *testing.T) {
	words := []string{
		"", "en", "gsw", "GB", "419", "u", "rg", "uszzzz", "419zzzz", "ms", "metric", "ussystem", "uksystem", "mu", "celsius", "fahrenhe", "kelvin", "x",
	}
	var extend func(s string, left int)
	extend = func(s string, left int) {
		reads(t, s)
		if left == 0 {
			return
		}
		for _, word := range words {
			extend(s+"-"+word, left-1)
		}
	}
	for _, word := range words {
		extend(word, 3)
	}
	for _, head := range []string{"en-u-ms", "gsw-419-u-mu", "en-GB-u-rg"} {
		extend(head, 3)
	}
}

// TestParseOfPairs has all short lists of pairs, the same key twice among them.
func TestParseOfPairs(t *testing.T) {
	pairs := []string{
		"rg-uszzzz", "rg-001zzzz", "ms-metric", "ms-ussystem", "ms-uksystem", "mu-celsius", "mu-fahrenhe", "mu-kelvin", "rg-metric", "mu-uszzzz", "xx-metric",
	}
	var extend func(s string, left int)
	extend = func(s string, left int) {
		reads(t, s)
		if left == 0 {
			return
		}
		for _, pair := range pairs {
			extend(s+"-"+pair, left-1)
		}
	}
	for _, head := range []string{"en-u", "en-GB-u", "es-419-u", "en-gb-u", "u"} {
		extend(head, 4)
	}
}

// TestParseOfRegions has all pairs of bytes and all numbers of up to four digits
// as regions of both kinds.
func TestParseOfRegions(t *testing.T) {
	try := func(region string) {
		reads(t, "en-"+region)
		reads(t, "en-u-rg-"+region+"zzzz")
	}
	for a := range 256 {
		for b := range 256 {
			try(string([]byte{byte(a), byte(b)}))
		}
	}
	for size, most := 1, 10; size <= 4; size, most = size+1, most*10 {
		for n := range most {
			digits := ""
			for m := n; len(digits) < size; m /= 10 {
				digits = string(rune('0'+m%10)) + digits
			}
			try(digits)
		}
	}
}

// TestRegionsOfOtherLetters has letters that become a to z or A to Z in the
// other case: no region is made of them.
func TestRegionsOfOtherLetters(t *testing.T) {
	for r := rune(utf8.RuneSelf); r < 0x2200; r++ {
		for _, region := range []string{string(r), string(r) + "S", "s" + string(r), string(r) + string(r)} {
			reads(t, "en-"+region)
			reads(t, "en-u-rg-"+region+"zzzz")
			holds(t, locale.Locale{Lang: "en", Region: region})
			holds(t, locale.Locale{Lang: "en", RG: region})
			holds(t, locale.Locale{Lang: region})
		}
	}
}

// TestGoodOfFields has all combinations of fields, right and wrong ones.
func TestGoodOfFields(t *testing.T) {
	langs := []string{"", "e", "en", "gsw", "engl", "EN", "en-", "en-GB", "en-u", "en-u-ms-metric", "12", "e\xff"}
	regions := []string{"", "GB", "419", "gb", "Gb", "G", "GBR", "41", "4190", "-", "u", "GB-", "GB-u", "u-ms-metric", "GB-u-ms-metric", "uszzzz", "G1"}
	systems := []string{"", "metric", "ussystem", "uksystem", "Metric", "kelvin", "-", "metric-", "metric-mu-kelvin", "metric-rg-uszzzz", "metric-ms-metric", "001"}
	temperatures := []string{"", "celsius", "fahrenhe", "kelvin", "fahrenheit", "Kelvin", "metric", "-", "kelvin-", "kelvin-ms-metric"}
	places := append([]string{"USzzzz", "US-", "us", "USZZZZ", "zzzz", "ZZ", "USzzzz-ms-metric", "US-ms-metric"}, regions...)
	for _, lang := range langs {
		for _, region := range regions {
			for _, place := range places {
				for _, system := range systems {
					for _, temperature := range temperatures {
						holds(t, locale.Locale{Lang: lang, Region: region, RG: place, MS: system, MU: temperature})
					}
				}
			}
		}
	}
}

func TestShow(t *testing.T) {
	for _, c := range []struct {
		x    locale.Locale
		want string
	}{
		{locale.Locale{Lang: "en"}, "en"},
		{locale.Locale{Lang: "es", Region: "419"}, "es-419"},
		{locale.Locale{Lang: "en", Region: "GB", RG: "US", MS: "metric", MU: "kelvin"}, "en-GB-u-rg-uszzzz-ms-metric-mu-kelvin"},
		{locale.Locale{Lang: "en", RG: "001", MU: "celsius"}, "en-u-rg-001zzzz-mu-celsius"},
		{locale.Locale{Lang: "en", MS: "ussystem", MU: "fahrenhe"}, "en-u-ms-ussystem-mu-fahrenhe"},
		{locale.Locale{Lang: "en", MS: "uksystem"}, "en-u-ms-uksystem"},
		{locale.Locale{}, ""},
		{locale.Locale{Region: "GB"}, ""},
		{locale.Locale{Lang: "en-GB"}, ""},
		{locale.Locale{Lang: "en", Region: "gb"}, ""},
		{locale.Locale{Lang: "en", RG: "us"}, ""},
		{locale.Locale{Lang: "en", RG: "USzzzz"}, ""},
		{locale.Locale{Lang: "en", MS: "imperial"}, ""},
		{locale.Locale{Lang: "en", MU: "fahrenheit"}, ""},
		{locale.Locale{Lang: "en", MS: "metric-mu-kelvin"}, ""},
	} {
		if got := locale.Show(c.x); got != c.want {
			t.Errorf("Show(%q): %q, want %q", c.x, got, c.want)
		}
		if got := locale.Good(c.x); got != (c.want != "") {
			t.Errorf("Good(%q): %v", c.x, got)
		}
	}
}

// TestPlace has locales that are not valid too: no condition is set on them.
func TestPlace(t *testing.T) {
	for _, c := range []struct {
		x    locale.Locale
		want string
	}{
		{locale.Locale{}, ""},
		{locale.Locale{Lang: "en"}, ""},
		{locale.Locale{Lang: "en", MU: "fahrenhe"}, ""},
		{locale.Locale{Lang: "en", Region: "GB"}, "GB"},
		{locale.Locale{Lang: "en", Region: "GB", RG: "US"}, "US"},
		{locale.Locale{Lang: "en", RG: "419"}, "419"},
		{locale.Locale{Lang: "en", Region: "US", RG: "US", MS: "metric"}, "001"},
		{locale.Locale{Lang: "de", Region: "DE", RG: "AT", MS: "ussystem"}, "US"},
		{locale.Locale{Lang: "de", MS: "uksystem"}, "GB"},
		{locale.Locale{MS: "uksystem"}, "GB"},
		{locale.Locale{Region: "somewhere"}, "somewhere"},
		{locale.Locale{Region: "GB", RG: "us"}, "us"},
		{locale.Locale{Region: "GB", MS: "Metric"}, "GB"},
	} {
		if got := locale.Place(c.x); got != c.want {
			t.Errorf("Place(%q): %q, want %q", c.x, got, c.want)
		}
	}
	x, e := locale.Parse("en-GB-u-rg-uszzzz")
	if got := locale.Place(x); e != api.OK || got != "US" {
		t.Errorf("Place of the chapter's example: %q, error %d", got, e)
	}
}

// TestLongTexts has texts of any length: the calls end, and without a limit of
// their own.
func TestLongTexts(t *testing.T) {
	const size = 1 << 18
	for _, part := range []string{"a", "A", "1", "-", "\x00", "\xff", "-u", "-u-", "-ms-metric", "-rg-uszzzz-mu-kelvin", "zzzz", "\u017f"} {
		long := strings.Repeat(part, size)
		for _, head := range []string{"", "en", "en-", "en-GB", "en-u", "en-GB-u-ms-metric", "en-u-rg-", "en-u-rg-us"} {
			reads(t, head+long)
			reads(t, head+long+"zzzz")
		}
		for _, x := range []locale.Locale{
			{Lang: long}, {Lang: "en", Region: long}, {Lang: "en", RG: long}, {Lang: "en", MS: long}, {Lang: "en", MU: long}, {Lang: long, Region: long, RG: long},
		} {
			holds(t, x)
		}
	}
}

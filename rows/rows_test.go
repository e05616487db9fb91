package rows_test

import (
	"regexp"
	"slices"
	"strconv"
	"strings"
	"testing"

	"cubit/api"
	"cubit/rows"
)

// The forms as the chapter says them, which tell what a result should be.
var (
	plainForm  = regexp.MustCompile(`\A[ -~]*\z`)
	wordForm   = regexp.MustCompile(`[^ ]+`)
	remarkForm = regexp.MustCompile(`(\A| )#.*`)
)

func row(line int, w ...string) rows.Row {
	return rows.Row{Line: line, W: w}
}

func equal(a, b rows.Row) bool {
	return a.Line == b.Line && slices.Equal(a.W, b.W)
}

// clone returns rows that share nothing with l.
func clone(l []rows.Row) []rows.Row {
	var list []rows.Row
	for _, r := range l {
		list = append(list, row(r.Line, slices.Clone(r.W)...))
	}
	return list
}

// told returns so much of the rows as may stand in a message.
func told(l []rows.Row) string {
	var text strings.Builder
	for _, r := range l[:min(len(l), 8)] {
		text.WriteString("{" + strconv.Itoa(r.Line))
		for _, word := range r.W {
			text.WriteString(" " + brief(word))
		}
		text.WriteString("}")
	}
	if len(l) > 8 {
		text.WriteString(".. of " + strconv.Itoa(len(l)) + " rows")
	}
	return text.String()
}

// brief returns so much of a text as may stand in a message.
func brief(text string) string {
	if len(text) > 60 {
		return strconv.Quote(text[:60]) + ".. of " + strconv.Itoa(len(text)) + " bytes"
	}
	return strconv.Quote(text)
}

// parses fails the test if text does not have the rows that are wanted.
func parses(t *testing.T, text string, want ...rows.Row) {
	t.Helper()
	l, line, e := rows.Parse(text)
	if e != api.OK || line != 0 || !slices.EqualFunc(l, want, equal) {
		t.Errorf("Parse(%s): %s, line %d, error %d, want %s", brief(text), told(l), line, e, told(want))
	}
}

// refused fails the test if text is not refused at the line and with the error
// that are wanted, and no rows.
func refused(t *testing.T, text string, line int, e api.Errno) {
	t.Helper()
	l, gotLine, got := rows.Parse(text)
	if got != e || gotLine != line || len(l) != 0 {
		t.Errorf("Parse(%s): %d rows, line %d, error %d, want line %d, error %d", brief(text), len(l), gotLine, got, line, e)
	}
}

func TestParse(t *testing.T) {
	parses(t, "a b # c", row(1, "a", "b"))
	parses(t, "a b", row(1, "a", "b"))
	parses(t, "a b\n", row(1, "a", "b"))
	parses(t, "base meter length\nunit foot 381/1250 meter\n", row(1, "base", "meter", "length"), row(2, "unit", "foot", "381/1250", "meter"))
	parses(t, "  a   b  ", row(1, "a", "b"))
	parses(t, "a\nb", row(1, "a"), row(2, "b"))
	parses(t, "b a\nb a", row(1, "b", "a"), row(2, "b", "a"))
	parses(t, "~ ! \" _ {0} A Z \\n \\", row(1, "~", "!", "\"", "_", "{0}", "A", "Z", "\\n", "\\"))
}

// TestParseWithoutWords has lines that are no rows, but are counted.
func TestParseWithoutWords(t *testing.T) {
	for _, text := range []string{"", "\n", "\n\n\n", " ", "   ", " \n ", "#", "# a b", "#a", "  # a", "#\n#\n", "##", "#\n\n #"} {
		parses(t, text)
	}
	parses(t, "\na", row(2, "a"))
	parses(t, "a\n\n", row(1, "a"))
	parses(t, "a\n\nb", row(1, "a"), row(3, "b"))
	parses(t, "\n \n# x\n a\n\nb\n\n\n", row(4, "a"), row(6, "b"))
}

// TestParseRemarks looks at where a remark begins: only at a word.
func TestParseRemarks(t *testing.T) {
	parses(t, "a #", row(1, "a"))
	parses(t, "a #b c", row(1, "a"))
	parses(t, "a # b # c", row(1, "a"))
	parses(t, "a  #  b", row(1, "a"))
	parses(t, "a#b c", row(1, "a#b", "c"))
	parses(t, "a# b", row(1, "a#", "b"))
	parses(t, "a#b #c d", row(1, "a#b"))
	parses(t, "# a\nb", row(2, "b"))
	parses(t, "a # b\nc", row(1, "a"), row(2, "c"))
}

// TestParseBytes has every byte in every place of a line: in a word, between
// words, alone, and in what is ignored.
func TestParseBytes(t *testing.T) {
	for b := range 256 {
		at := string([]byte{byte(b)})
		for _, line := range []string{at, "a" + at + "b", at + "a", "a" + at, "a " + at + " b", "# " + at, "#" + at, "a # b" + at, "a #b c " + at + "d"} {
			if b == '\n' {
				continue
			}
			text := "x\n\n" + line + "\ny"
			if b < 32 || b > 126 {
				refused(t, text, 3, api.EFORM)
				refused(t, line, 1, api.EFORM)
				continue
			}
			if l, _, e := rows.Parse(text); e != api.OK || l[len(l)-1].Line != 4 {
				t.Errorf("Parse(%q): %s, error %d", text, told(l), e)
			}
		}
	}
	for _, text := range []string{"a\r\n", "a\r", "a\tb", "\t", "\x00", "a\x7f", "caf\u00e9", "\u00b5m", "a # \u2212", "a\u00a0b", "\ufeffa", "a\vb", "a\fb", "\xff"} {
		refused(t, text, 1, api.EFORM)
	}
}

// repeat returns a line of so many words.
func repeat(word string, times int) string {
	return strings.Join(slices.Repeat([]string{word}, times), " ")
}

func TestParseAtTheLimitOfWords(t *testing.T) {
	most := slices.Repeat([]string{"w"}, api.MaxWords)
	line := strings.Join(most, " ")
	parses(t, line, row(1, most...))
	parses(t, "  "+strings.Join(most, "   ")+"  ", row(1, most...))
	parses(t, line+" #", row(1, most...))
	parses(t, line+" # x y z", row(1, most...))
	parses(t, "# "+line+" "+line)
	parses(t, "a #"+line+" "+line, row(1, "a"))
	parses(t, line+"\n"+line, row(1, most...), row(2, most...))
	refused(t, line+" w", 1, api.EFORM)
	refused(t, line+" w #", 1, api.EFORM)
	refused(t, line+" w#", 1, api.EFORM)
	refused(t, line+"\n\n"+line+" w\n", 3, api.EFORM)
	refused(t, repeat("w", 30000), 1, api.EFORM)
}

func TestParseAtTheLimitOfRows(t *testing.T) {
	var all []rows.Row
	for i := range api.MaxRows {
		all = append(all, row(i+1, "a"))
	}
	most := strings.Repeat("a\n", api.MaxRows)
	parses(t, most, all...)
	parses(t, strings.TrimSuffix(most, "\n"), all...)
	parses(t, most+"\n\n # b\n   \n", all...)
	refused(t, most+"b", 2001, api.ESIZE)
	refused(t, most+"b\n", 2001, api.ESIZE)
	refused(t, most+"b # c\n", 2001, api.ESIZE)
	refused(t, most+"\n#\nb\nc\nd", 2003, api.ESIZE)
	// Lines without words, too many of them to be rows.
	parses(t, strings.Repeat("#\n", 3*api.MaxRows)+"a", row(3*api.MaxRows+1, "a"))
}

// TestParseErrorsInOrder has what is wrong in several ways.
func TestParseErrorsInOrder(t *testing.T) {
	most := strings.Repeat("a\n", api.MaxRows)
	tooMany := repeat("w", api.MaxWords+1)
	// The first line that is wrong, whatever is wrong in it.
	refused(t, "a\t\n"+tooMany, 1, api.EFORM)
	refused(t, tooMany+"\na\t", 1, api.EFORM)
	refused(t, "\n\xff\n"+most+"b", 2, api.EFORM)
	refused(t, most+"b\nc\t", 2001, api.ESIZE)
	refused(t, most+"b\n"+tooMany, 2001, api.ESIZE)
	// In one line the form is looked at before the number of rows.
	refused(t, most+"b\t", 2001, api.EFORM)
	refused(t, most+"b # \x80", 2001, api.EFORM)
	refused(t, most+tooMany, 2001, api.EFORM)
	// A line that is no row may be wrong too.
	refused(t, most+"# \x7f\nb", 2001, api.EFORM)
	refused(t, most+"\n\t", 2002, api.EFORM)
	// The size of the text is looked at before its lines.
	refused(t, "\t"+strings.Repeat("a", api.MaxData), 0, api.ESIZE)
	refused(t, tooMany+strings.Repeat(" ", api.MaxData), 0, api.ESIZE)
	refused(t, most+"b\n"+strings.Repeat("\n", api.MaxData), 0, api.ESIZE)
}

func TestParseAtTheLimitOfSize(t *testing.T) {
	parses(t, strings.Repeat(" ", api.MaxData))
	parses(t, strings.Repeat("\n", api.MaxData))
	parses(t, "#"+strings.Repeat("x", api.MaxData-1))
	long := strings.Repeat("x", api.MaxData)
	parses(t, long, row(1, long))
	parses(t, strings.Repeat("\n", api.MaxData-1)+"a", row(api.MaxData, "a"))
	refused(t, strings.Repeat("\n", api.MaxData-1)+"\t", api.MaxData, api.EFORM)
	for _, part := range []string{" ", "\n", "x", "#", "\t", "\xff"} {
		refused(t, strings.Repeat(part, api.MaxData+1), 0, api.ESIZE)
		refused(t, strings.Repeat(part, 1<<20), 0, api.ESIZE)
	}
}

// texts returns all texts of up to so many of the bytes.
func texts(most int, bytes string) []string {
	all := []string{""}
	for from, size := 0, 0; size < most; size++ {
		to := len(all)
		for _, text := range all[from:to] {
			for _, b := range bytes {
				all = append(all, text+string(b))
			}
		}
		from = to
	}
	return all
}

// TestParseOfAllTexts holds short texts of every kind against the forms.
func TestParseOfAllTexts(t *testing.T) {
	for _, text := range texts(7, "a# \n\t") {
		var want []rows.Row
		wrong := 0
		for i, line := range strings.Split(text, "\n") {
			if !plainForm.MatchString(line) {
				wrong = i + 1
				break
			}
			if w := wordForm.FindAllString(remarkForm.ReplaceAllString(line, ""), -1); len(w) > 0 {
				want = append(want, row(i+1, w...))
			}
		}
		if wrong > 0 {
			refused(t, text, wrong, api.EFORM)
		} else {
			parses(t, text, want...)
		}
	}
}

func TestOf(t *testing.T) {
	l := []rows.Row{row(1, "a", "1"), row(2, "b", "a"), row(3, "a"), row(5, "ab"), row(9, "a", "a", "a"), row(9, "A"), row(0, "b")}
	for _, c := range []struct {
		l    []rows.Row
		kind string
		want []rows.Row
	}{
		{l, "a", []rows.Row{row(1, "a", "1"), row(3, "a"), row(9, "a", "a", "a")}},
		{l, "b", []rows.Row{row(2, "b", "a"), row(0, "b")}},
		{l, "A", []rows.Row{row(9, "A")}},
		{l, "ab", []rows.Row{row(5, "ab")}},
		{l, "1", nil},
		{l, "", nil},
		{l, "a 1", nil},
		{l, " a", nil},
		{nil, "a", nil},
		{nil, "", nil},
		{[]rows.Row{}, "a", nil},
		// No parsing makes these: a row without words has no first one.
		{[]rows.Row{{}, row(-3), {Line: 7, W: []string{}}}, "", nil},
		{[]rows.Row{row(-3, "", "x"), row(4), row(2, "x", "")}, "", []rows.Row{row(-3, "", "x")}},
		{[]rows.Row{row(1, "a\n b", "\xff"), row(1, "a"), row(1, "a\n b")}, "a\n b", []rows.Row{row(1, "a\n b", "\xff"), row(1, "a\n b")}},
	} {
		if got := rows.Of(c.l, c.kind); !slices.EqualFunc(got, c.want, equal) {
			t.Errorf("Of(%s, %q): %s, want %s", told(c.l), c.kind, told(got), told(c.want))
		}
	}
}

func TestShow(t *testing.T) {
	for _, c := range []struct {
		l    []rows.Row
		want string
	}{
		{nil, ""},
		{[]rows.Row{}, ""},
		{[]rows.Row{row(1, "a")}, "a\n"},
		{[]rows.Row{row(1, "a", "b", "c")}, "a b c\n"},
		{[]rows.Row{row(9, "b", "2"), row(4, "a"), row(-1, "b", "2")}, "b 2\na\nb 2\n"},
		// No parsing makes these: they are shown as they are.
		{[]rows.Row{row(1)}, "\n"},
		{[]rows.Row{{}, row(0, "a"), {}}, "\na\n\n"},
		{[]rows.Row{row(1, ""), row(1, "", "")}, "\n \n"},
		{[]rows.Row{row(1, "a b", "#", "c\n", "\xff")}, "a b # c\n \xff\n"},
	} {
		if got := rows.Show(c.l); got != c.want {
			t.Errorf("Show(%s): %q, want %q", told(c.l), got, c.want)
		}
	}
}

// TestShowOfParse looks that what is shown has the same words, and is shown as
// it is.
func TestShowOfParse(t *testing.T) {
	for _, text := range texts(7, "ab# \n") {
		l, _, _ := rows.Parse(text)
		shown := rows.Show(l)
		again, line, e := rows.Parse(shown)
		if e != api.OK || line != 0 || len(again) != len(l) || rows.Show(again) != shown {
			t.Fatalf("Show of Parse(%q): %q", text, shown)
		}
		for i := range l {
			if !equal(again[i], row(i+1, l[i].W...)) {
				t.Fatalf("Show of Parse(%q): %q", text, shown)
			}
		}
	}
}

func TestBlank(t *testing.T) {
	for s, want := range map[string]string{
		"":              "",
		"_":             " ",
		"a_b":           "a b",
		"a_b__":         "a b  ",
		"__a":           "  a",
		"a b":           "a b",
		"a-b":           "a-b",
		"{0}_per_{1}":   "{0} per {1}",
		"\u00b5_\xff_#": "\u00b5 \xff #",
		"\u2017\uff3f":  "\u2017\uff3f",
		"%5F\\_":        "%5F\\ ",
	} {
		if got := rows.Blank(s); got != want {
			t.Errorf("Blank(%q): %q, want %q", s, got, want)
		}
	}
	if got := rows.Blank(strings.Repeat("_x", 1<<16)); got != strings.Repeat(" x", 1<<16) {
		t.Errorf("Blank of a long text has %d bytes", len(got))
	}
}

// scribble writes over a list of words, its spare capacity too.
func scribble(list []string) {
	whole := list[:cap(list)]
	for i := range whole {
		whole[i] = "scribble"
	}
}

// scribbleRows writes over rows and their words, their spare capacity too.
func scribbleRows(l []rows.Row) {
	whole := l[:cap(l)]
	for i := range whole {
		scribble(whole[i].W)
		whole[i] = row(-1, "scribble")
	}
}

// TestArgumentsAreKept marks the spare capacity of the lists and looks at it
// after the calls, and after their results have been written over.
func TestArgumentsAreKept(t *testing.T) {
	words := func(w ...string) []string { return append(w, "mark", "a")[:len(w)] }
	whole := []rows.Row{row(1, words("a", "1")...), row(2, words("b")...), row(3, words("a")...), row(4, words()...), row(5, "a", "mark")}
	spare := func() []rows.Row {
		var list []rows.Row
		for _, r := range whole {
			list = append(list, row(r.Line, slices.Clone(r.W[:cap(r.W)])...))
		}
		return list
	}
	before := spare()
	given := whole[:4]
	scribbleRows(rows.Of(given, "a"))
	scribbleRows(rows.Of(given, "b"))
	scribbleRows(rows.Of(given, ""))
	if got := rows.Show(given); got != "a 1\nb\na\n\n" {
		t.Errorf("Show: %q", got)
	}
	if !slices.EqualFunc(spare(), before, equal) {
		t.Errorf("the calls have changed %s to %s", told(before), told(spare()))
	}
}

// sharesNothing fails the test if writing over the words of one row, or
// appending to them, changes another row.
func sharesNothing(t *testing.T, l []rows.Row) {
	t.Helper()
	before := clone(l)
	for i := range l {
		scribble(l[i].W)
		scribble(append(l[i].W, "more"))
		for j := i + 1; j < len(l); j++ {
			if !equal(l[j], before[j]) {
				t.Fatalf("rows %d and %d share memory", i, j)
			}
		}
	}
}

func TestResultsAreNewMemory(t *testing.T) {
	const text = "a 1 # x\nb 2 3 # y z\n\na\na 4 5 6 7 #\nb"
	want := []rows.Row{row(1, "a", "1"), row(2, "b", "2", "3"), row(4, "a"), row(5, "a", "4", "5", "6", "7"), row(6, "b")}
	l, _, _ := rows.Parse(text)
	sharesNothing(t, l)
	scribbleRows(l)
	parses(t, text, want...)
	l, _, _ = rows.Parse(text)
	first := rows.Of(l, "a")
	second := rows.Of(l, "a")
	sharesNothing(t, first)
	scribbleRows(first)
	if !slices.EqualFunc(second, []rows.Row{want[0], want[2], want[3]}, equal) {
		t.Errorf("two results of Of share memory: %s", told(second))
	}
	if !slices.EqualFunc(l, want, equal) {
		t.Errorf("Of shares memory with its argument: %s", told(l))
	}
	// The same words, given for two rows, are not the same memory any more.
	w := []string{"a", "1"}
	sharesNothing(t, rows.Of([]rows.Row{row(1, w...), row(2, w...)}, "a"))
}

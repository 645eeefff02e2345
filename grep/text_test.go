package grep

import (
	"strconv"
	"strings"
	"testing"

	"bre/api"
)

type grepCase struct {
	pattern string
	text    string
	options api.Options
	out     string
	status  int
}

func checkGrep(t *testing.T, c grepCase) {
	t.Helper()
	out, status := Grep(c.pattern, c.text, c.options)
	if out != c.out || status != c.status {
		t.Errorf("Grep(%q, %.60q, %+v): %.60q, %d, want %.60q, %d", c.pattern, c.text, c.options, out, status, c.out, c.status)
	}
}

func checkGreps(t *testing.T, cases []grepCase) {
	t.Helper()
	for _, c := range cases {
		checkGrep(t, c)
	}
}

// optionsOf: the options by a number of four bits.
func optionsOf(n int) api.Options {
	return api.Options{Only: n&1 != 0, Invert: n&2 != 0, Count: n&4 != 0, Number: n&8 != 0}
}

// checkEveryOption: the answer is the same whatever the options are.
func checkEveryOption(t *testing.T, pattern, text, out string, status int) {
	t.Helper()
	for n := 0; n < 16; n++ {
		checkGrep(t, grepCase{pattern, text, optionsOf(n), out, status})
	}
}

// seenLine: a line of a text, whether something is to be found in it, and what All is to give of it.
type seenLine struct {
	text  string
	found bool
	spans []api.Span
}

// output: what Grep is to answer of some lines, by the document's words.
func output(lines []seenLine, o api.Options) (string, int) {
	var out []string
	chosen := 0
	for i, line := range lines {
		if line.found == o.Invert {
			continue
		}
		chosen++
		parts := []string{line.text}
		if o.Only {
			parts = nil
			for _, span := range line.spans {
				parts = append(parts, line.text[span.From:span.To])
			}
		}
		for _, part := range parts {
			if o.Number {
				part = strconv.Itoa(i+1) + ":" + part
			}
			out = append(out, part+"\n")
		}
	}
	if o.Count {
		out = []string{strconv.Itoa(chosen) + "\n"}
	}
	if chosen == 0 {
		return strings.Join(out, ""), 1
	}
	return strings.Join(out, ""), 0
}

// checkGrepOfLines: with a line feed at the text's end and, if the last line has a byte, without one too.
func checkGrepOfLines(t *testing.T, pattern string, lines []seenLine, o api.Options) {
	t.Helper()
	out, status := output(lines, o)
	text := ""
	last := ""
	for _, line := range lines {
		last = line.text
		text += last + "\n"
	}
	checkGrep(t, grepCase{pattern, text, o, out, status})
	if last != "" {
		checkGrep(t, grepCase{pattern, strings.TrimSuffix(text, "\n"), o, out, status})
	}
}

func TestExamplesOfGrep(t *testing.T) {
	const text = "ab\nxx\nba"
	checkGreps(t, []grepCase{
		{"a", text, api.Options{}, "ab\nba\n", 0}, {"a", text, api.Options{Invert: true}, "xx\n", 0}, {"a", text, api.Options{Count: true}, "2\n", 0}, {"a", text, api.Options{Number: true}, "1:ab\n3:ba\n", 0}, {"a", text, api.Options{Only: true, Number: true}, "1:a\n3:a\n", 0},
		{"y", text, api.Options{}, "", 1}, {"y", text, api.Options{Count: true}, "0\n", 1}, {"[", text, api.Options{}, "", 2},
		{"", "\n\n", api.Options{}, "\n\n", 0}, {"", "", api.Options{}, "", 1}, {"a*", "b\naa", api.Options{Only: true}, "aa\n", 0},
	})
}

func TestHowATextIsCut(t *testing.T) {
	checkGreps(t, []grepCase{
		{"", "", api.Options{Count: true}, "0\n", 1}, {"", "\n", api.Options{Count: true}, "1\n", 0}, {"", "a", api.Options{Count: true}, "1\n", 0}, {"", "a\n", api.Options{Count: true}, "1\n", 0}, {"", "a\nb", api.Options{Count: true}, "2\n", 0}, {"", "a\nb\n", api.Options{Count: true}, "2\n", 0}, {"", "a\n\n", api.Options{Count: true}, "2\n", 0}, {"", "\na", api.Options{Count: true}, "2\n", 0}, {"", "\n\n\n", api.Options{Count: true}, "3\n", 0}, {"", "\n \n", api.Options{Count: true}, "2\n", 0},
		{"", "a", api.Options{}, "a\n", 0}, {"", "a\n", api.Options{}, "a\n", 0}, {"", "\n\na\n\n", api.Options{}, "\n\na\n\n", 0}, {"^$", "x\n\ny", api.Options{Number: true}, "2:\n", 0}, {"^$", "x\ny\n", api.Options{}, "", 1}, {"^$", "", api.Options{}, "", 1}, {"x", "", api.Options{Invert: true}, "", 1}, {"x", "\n", api.Options{Invert: true}, "\n", 0}, {"x", "a\n", api.Options{Invert: true, Number: true}, "1:a\n", 0},
		// Only line feeds cut, and all other bytes stay.
		{"a", "a\r\nb\r\n", api.Options{}, "a\r\n", 0}, {"^a$", "a\r\na\n", api.Options{}, "a\n", 0}, {"b", "a\x00b\vb\fb\x85b", api.Options{Count: true}, "1\n", 0}, {"a", "\x00a\xff\nb", api.Options{}, "\x00a\xff\n", 0}, {"[^a]", "\xc3\xa9\na", api.Options{}, "\xc3\xa9\n", 0},
		// No match goes beyond a line, and anchors speak of it alone.
		{"a.b", "a\nb", api.Options{}, "", 1}, {"a[^x]*b", "a\nb\nacb", api.Options{}, "acb\n", 0}, {".*", "ab\ncd\n", api.Options{Only: true}, "ab\ncd\n", 0}, {"a[[:space:]]*", "a\n\na \n", api.Options{Only: true}, "a\na \n", 0}, {"^b", "ab\nba\nb", api.Options{}, "ba\nb\n", 0}, {"b$", "ab\nba\nb", api.Options{}, "ab\nb\n", 0}, {`\(a\)\1`, "a\na\naa", api.Options{Number: true}, "3:aa\n", 0},
	})
}

func TestOptions(t *testing.T) {
	const text = "aab\nb\n\nbab\n"
	for n, want := range [16]struct {
		out    string
		status int
	}{
		{"aab\nbab\n", 0}, {"aa\na\n", 0}, {"b\n\n", 0}, {"", 0},
		{"2\n", 0}, {"2\n", 0}, {"2\n", 0}, {"2\n", 0},
		{"1:aab\n4:bab\n", 0}, {"1:aa\n4:a\n", 0}, {"2:b\n3:\n", 0}, {"", 0},
		{"2\n", 0}, {"2\n", 0}, {"2\n", 0}, {"2\n", 0},
	} {
		checkGrep(t, grepCase{"aa*", text, optionsOf(n), want.out, want.status})
	}
	for n := 0; n < 16; n++ {
		o := optionsOf(n)
		out := ""
		if o.Count {
			out = "0\n"
		}
		none := "c"
		if o.Invert {
			none = "b*"
		}
		checkGrep(t, grepCase{none, text, o, out, 1})
		checkGrep(t, grepCase{"", "", o, out, 1})
	}
}

func TestMatchesAlone(t *testing.T) {
	only := api.Options{Only: true}
	numbered := api.Options{Only: true, Number: true}
	checkGreps(t, []grepCase{
		{"a", "aba\nb\naa", only, "a\na\na\na\n", 0}, {"a", "aba\nb\naa", numbered, "1:a\n1:a\n3:a\n3:a\n", 0}, {"aa", "aaaaa\n", only, "aa\naa\n", 0}, {"^a", "aaa\nba\naa", only, "a\na\n", 0}, {"a*$", "aba\nab\n", numbered, "1:a\n", 0}, {`\(.\)\1`, "aabbb\nab\ncc", numbered, "1:aa\n1:bb\n3:cc\n", 0},
		// A line is chosen for a match without a byte, too, though none is shown.
		{"a*", "b\n", only, "", 0}, {"", "b", numbered, "", 0}, {"^$", "\n", numbered, "", 0}, {"a*", "b\n\nbab", numbered, "3:a\n", 0}, {"a*", "b\n\nbab", api.Options{Only: true, Count: true}, "3\n", 0}, {"a", "b\n", only, "", 1},
		{"a", "b\na\n", api.Options{Only: true, Invert: true}, "", 0}, {"a", "a\na\n", api.Options{Only: true, Invert: true}, "", 1}, {"a*", "b\n", api.Options{Only: true, Invert: true}, "", 1}, {"a", "b\na\n", api.Options{Only: true, Invert: true, Number: true}, "", 0},
	})
}

func TestNumbersOfLines(t *testing.T) {
	number := api.Options{Number: true}
	for _, n := range []int{1, 2, 9, 10, 11, 99, 100, 1000, 1999} {
		at := strconv.Itoa(n)
		checkGrep(t, grepCase{"a", strings.Repeat("b\n", n-1) + "a\nb", number, at + ":a\n", 0})
		checkGrep(t, grepCase{"a", strings.Repeat("b\n", n-1) + "xa\n", api.Options{Number: true, Only: true}, at + ":a\n", 0})
		checkGrep(t, grepCase{"b", strings.Repeat("b\n", n-1) + "a\n", api.Options{Number: true, Invert: true}, at + ":a\n", 0})
		checkGrep(t, grepCase{"a", strings.Repeat("a\nb\n", n/2) + "a", api.Options{Count: true}, strconv.Itoa(n/2+1) + "\n", 0})
	}
	// What looks like a number in a line is the line's.
	checkGrep(t, grepCase{":", "7:a\n:", number, "1:7:a\n2::\n", 0})
}

func TestLongTexts(t *testing.T) {
	full := strings.Repeat("abcd\n", api.MaxText/5)
	feeds := strings.Repeat("\n", api.MaxText)
	as := strings.Repeat("a", api.MaxText)
	checkGreps(t, []grepCase{
		{"b", full, api.Options{}, full, 0}, {"x", full, api.Options{}, "", 1}, {"b", full, api.Options{Count: true}, "800\n", 0}, {"", feeds, api.Options{}, feeds, 0}, {"", feeds, api.Options{Count: true}, "4000\n", 0}, {"", as, api.Options{}, as + "\n", 0}, {"a*", as, api.Options{Only: true}, as + "\n", 0}, {"a", as, api.Options{Only: true, Number: true}, strings.Repeat("1:a\n", api.MaxText), 0}, {"^a*$", as, api.Options{Count: true}, "1\n", 0},
	})
	for _, pattern := range []string{"", "a", "x", "^", `\(a\)\1`, "["} {
		for _, text := range []string{full + "a", full + "\n", feeds + "\n", as + "a", strings.Repeat("a\n", 1000000)} {
			checkEveryOption(t, pattern, text, "", 2)
		}
	}
}

func TestWrongPatterns(t *testing.T) {
	for _, pattern := range []string{strings.Repeat("a", 61), "a\nb", "\n", `a\`, "[a", "[[:x:]]", "[b-a]", `a\{2,1\}`, `a\)`, strings.Repeat(`\(a\)`, 10), `\1`, `\(a`, `a\{20\}\{20\}`} {
		for _, text := range []string{"", "\n", "a", "a\nb\n"} {
			checkEveryOption(t, pattern, text, "", 2)
		}
	}
	long := strings.Repeat("a", api.MaxPattern)
	checkGrep(t, grepCase{long, long + "\nb", api.Options{}, long + "\n", 0})
}

func TestReferencesInTexts(t *testing.T) {
	as := strings.Repeat("a", api.MaxBackLine)
	text := as + "\n" + as + "a\naa\n"
	checkGreps(t, []grepCase{
		// The bound is one of lines, and not of the text.
		{`\(a\)\1$`, text, api.Options{Number: true}, "1:" + as + "\n3:aa\n", 0}, {`\(a\)\1$`, text, api.Options{Number: true, Invert: true}, "2:" + as + "a\n", 0}, {`\(a\)\1$`, text, api.Options{Number: true, Only: true}, "1:aa\n3:aa\n", 0}, {`\(aa*\)\1`, text, api.Options{Only: true}, as + "\naa\n", 0}, {`\(\)\1`, text, api.Options{Count: true}, "2\n", 0}, {`\(\)\1`, text, api.Options{Count: true, Invert: true}, "1\n", 0}, {`\(\)\1`, as + "a", api.Options{}, "", 1},
	})
	many := strings.Repeat("abcabc\nabcabx\n", 285)
	checkGreps(t, []grepCase{{`^\(.*\)\1$`, many, api.Options{Count: true}, "285\n", 0}, {`\(.*\)\(.*\)\2\1`, many, api.Options{Count: true, Invert: true}, "0\n", 1}})
}

func TestNoGrepHangsOnAnother(t *testing.T) {
	for i := 0; i < 3; i++ {
		checkGreps(t, []grepCase{
			{"a", "b\na", api.Options{Number: true}, "2:a\n", 0}, {"[", "b\na", api.Options{Number: true}, "", 2}, {"b", "b\na", api.Options{}, "b\n", 0}, {"c", "b\na", api.Options{}, "", 1}, {"c", "b\na", api.Options{Invert: true, Count: true}, "2\n", 0},
		})
	}
}

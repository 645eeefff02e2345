package grep

import (
	"strings"
	"testing"

	"bre/api"
)

type compileCase struct {
	pattern string
	errno   api.Errno
	at      int
}

func checkCompile(t *testing.T, cases []compileCase) {
	t.Helper()
	for _, c := range cases {
		x, errno, at := Compile(c.pattern)
		if errno != c.errno || at != c.at {
			t.Errorf("Compile(%.70q): error %d at %d, want %d at %d", c.pattern, errno, at, c.errno, c.at)
		}
		if (x == nil) != (errno != api.OK) {
			t.Errorf("Compile(%.70q): pattern %v beside error %d", c.pattern, x, errno)
		}
	}
}

func checkGood(t *testing.T, patterns []string) {
	t.Helper()
	for _, p := range patterns {
		checkCompile(t, []compileCase{{p, api.OK, 0}})
	}
}

func TestOrdinaryPatterns(t *testing.T) {
	checkGood(t, []string{
		"", "a", "abc", "a.c", ".*", "^abc$", `a\{2,3\}b*`, `\(ab\)*\1`, `[a-z][[:digit:]]*`,
		"(a)", "a|b", "a+", "a?", "{2}", "}", "]", "a]b", ",", "-", "\x00\xff\x80", "\t\r",
	})
}

func TestLength(t *testing.T) {
	full := strings.Repeat("a", api.MaxPattern)
	checkCompile(t, []compileCase{
		{full, api.OK, 0},
		{full + "a", api.ErrLong, 0},
		{"\n" + full, api.ErrLong, 0},
		{`\d` + full, api.ErrLong, 0},
		{strings.Repeat(`\(`, 100000), api.ErrLong, 0},
	})
}

func TestLineFeed(t *testing.T) {
	checkCompile(t, []compileCase{
		{"\n", api.ErrByte, 0},
		{"ab\nc\nd", api.ErrByte, 2},
		{"[\n]", api.ErrByte, 1},
		{"\\\n", api.ErrByte, 1},
		{"\\d[b-a\n", api.ErrByte, 6},
		{"\\(\n", api.ErrByte, 2},
		{strings.Repeat("a", api.MaxPattern-1) + "\n", api.ErrByte, api.MaxPattern - 1},
	})
}

func TestEscapes(t *testing.T) {
	checkGood(t, []string{`\.`, `\[`, `\]`, `\*`, `\^`, `\$`, `\\`, `\\\\`, `\.*`, `\^*`, `\$\{2\}`, `\[a\]`})
	checkCompile(t, []compileCase{
		{`\`, api.ErrEscape, 0},
		{`a\`, api.ErrEscape, 1},
		{`\\\`, api.ErrEscape, 2},
		{`\(\`, api.ErrEscape, 2},
		{`\0`, api.ErrEscape, 0},
		{`a\}`, api.ErrEscape, 1},
		{`\d`, api.ErrEscape, 0},
		{`\-`, api.ErrEscape, 0},
		{`\/`, api.ErrEscape, 0},
		{`\ `, api.ErrEscape, 0},
		{"\\\x00", api.ErrEscape, 0},
		{"ab\\\xff", api.ErrEscape, 2},
		{`\+\?`, api.ErrEscape, 0},
		{`\|`, api.ErrEscape, 0},
	})
}

func TestEveryEscapedByte(t *testing.T) {
	for c := 0; c < 256; c++ {
		if c == '\n' {
			continue
		}
		want := api.ErrEscape
		switch {
		case strings.IndexByte(`.[]*^$\`, byte(c)) >= 0:
			want = api.OK
		case c == '(':
			want = api.ErrOpen
		case c == ')':
			want = api.ErrClose
		case c == '{':
			want = api.ErrCount
		case c >= '1' && c <= '9':
			want = api.ErrBack
		}
		checkCompile(t, []compileCase{{string([]byte{'\\', byte(c)}), want, 0}})
	}
}

func TestWhatStandsAtABeginning(t *testing.T) {
	checkGood(t, []string{
		"*", "**", "^*", "^**", `^*\{2\}`, `*\{2\}`, `\(*\)`, `\(*\{2\}\)`, `\(^*\)`, `\(^*\{2\}\)`, `\(^\)*`, `\(^\)\{2\}`,
		"^", "^^", "^^*", `^^\{2\}`, "a^", "a^*", `a^\{2\}`, `\(a\)^\{2\}`, `\(\)*`, `\(\)\{2\}`,
	})
	checkCompile(t, []compileCase{
		{`\{2\}`, api.ErrCount, 0},
		{`\(\{2\}\)`, api.ErrCount, 2},
		{`a\(\{2\}\)`, api.ErrCount, 3},
		{`^\{2\}`, api.ErrCount, 1},
		{`\(^\{2\}\)`, api.ErrCount, 3},
		{`\(\(^\{2\}\)\)`, api.ErrCount, 5},
	})
}

func TestWhatStandsAtAnEnd(t *testing.T) {
	checkGood(t, []string{
		"$", "^$", "a$", "$$", "$a", "$*", `$\{2\}`, `a$\{2\}`, `\($\)`, `\(a$\)b`, `\($\)*`, `\(a$*\)`, `$\(a\)`, `\($a\)`,
	})
	checkCompile(t, []compileCase{{`a$\)`, api.ErrClose, 2}, {`$\{2`, api.ErrCount, 1}, {`$\`, api.ErrEscape, 1}})
}

func TestWhatClosesABracket(t *testing.T) {
	checkGood(t, []string{
		"[a]", "[^a]", "[]]", "[^]]", "[]a]", "[^]a]", "[]-]", "[^^]", "[^-]", "[-]", `[\]`, `[\\]`, `[\(\)\{\1]`, `[*.$]`,
		"[[]", "[[a]", "[a[]", "[[[]", "[:a:]", "[=a]", "[a]]", "[]^]", "[\x00\xff]", "[a]*", `[a]\{2\}`, "[a][b]", "[a]-[b]",
	})
	checkCompile(t, []compileCase{
		{"[", api.ErrBracket, 0},
		{"[^", api.ErrBracket, 0},
		{"[]", api.ErrBracket, 0},
		{"[^]", api.ErrBracket, 0},
		{"a[b", api.ErrBracket, 1},
		{"[a][b", api.ErrBracket, 3},
		{"[[", api.ErrBracket, 0},
		{"[-", api.ErrBracket, 0},
		{"[a-", api.ErrBracket, 0},
		{"[a-c", api.ErrBracket, 0},
		{"[]-", api.ErrBracket, 0},
		{"[A-[", api.ErrBracket, 0},
		{`[a\`, api.ErrBracket, 0},
		{`\([a\)`, api.ErrBracket, 2},
		{"xy[[:digit:]", api.ErrBracket, 2},
		{"[[:digit:]-", api.ErrBracket, 0},
		{"[[:digit:]a", api.ErrBracket, 0},
		{`[^a\d\(`, api.ErrBracket, 0},
	})
}

func TestClasses(t *testing.T) {
	checkGood(t, []string{
		"[[:alpha:]]", "[[:digit:]]", "[[:alnum:]]", "[[:upper:]]", "[[:lower:]]", "[[:space:]]",
		"[^[:digit:]]", "[a[:digit:]b]", "[[:digit:][:alpha:]]", "[][:digit:]]", "[-[:digit:]]", "[a-c[:digit:]]",
		"[[:digit:]-]", "[[:digit:]a-c]", "[[:digit:]a-]", "[[:digit:]a-c-e]", "[[:digit:]a-c--z]", "[^[:digit:]-]", "[[:alpha:][:digit:]-]",
	})
	checkCompile(t, []compileCase{
		{"[[:digits:]]", api.ErrClass, 1},
		{"[[:punct:]]", api.ErrClass, 1},
		{"[[:Alpha:]]", api.ErrClass, 1},
		{"[[::]]", api.ErrClass, 1},
		{"[[: alpha:]]", api.ErrClass, 1},
		{"[[:digit]", api.ErrClass, 1},
		{"[[:digit:", api.ErrClass, 1},
		{"[[:digi", api.ErrClass, 1},
		{"[[:", api.ErrClass, 1},
		{"[[:]", api.ErrClass, 1},
		{"[[.", api.ErrClass, 1},
		{"[[.a.]]", api.ErrClass, 1},
		{"[[=a=]]", api.ErrClass, 1},
		{"[[.digit.]]", api.ErrClass, 1},
		{"[[=digit=]]", api.ErrClass, 1},
		{"[^[:x:]]", api.ErrClass, 2},
		{"a[]bc[:x:]]", api.ErrClass, 5},
		{"[a-c[:x:]]", api.ErrClass, 4},
		{"[[:digit:][:x:]]", api.ErrClass, 10},
		{"[[:digit:]x[.y", api.ErrClass, 11},
	})
}

func TestRanges(t *testing.T) {
	checkGood(t, []string{
		"[a-z]", "[a-a]", "[\x00-\xff]", "[\xff-\xff]", "[%--]", "[---]", "[--]", "[a-]", "[-a]", "[a-c-]", "[a-c-e]", "[a-c--]", "[a-c--z]",
		"[]-a]", "[^]-a]", "[]-]", "[^-a]", "[A-[]", "[[-a]", "[A-[a]", "[^-a-z]", `[\-a]`, "[*-.]", "[+--]", "[!-^]",
	})
	checkCompile(t, []compileCase{
		{"[b-a]", api.ErrRange, 1},
		{"[^b-a]", api.ErrRange, 2},
		{"[xb-az", api.ErrRange, 2},
		{"[b-a", api.ErrRange, 1},
		{"a[xyb-a]", api.ErrRange, 4},
		{"[--%]", api.ErrRange, 1},
		{"[a--]", api.ErrRange, 1},
		{"[a-c--%]", api.ErrRange, 4},
		{"[]-A]", api.ErrRange, 1},
		{"[\xff-\x00]", api.ErrRange, 1},
		{"[a-[]", api.ErrRange, 1},
		{"[a-[", api.ErrRange, 1},
		{"[a-[:digit:]]", api.ErrRange, 1},
		{"[A-[:digit:]]", api.ErrRange, 1},
		{"[A-[.x.]]", api.ErrRange, 1},
		{"[A-[=x=]]", api.ErrRange, 1},
		{"[A-[:", api.ErrRange, 1},
		{"[xA-[:nothing", api.ErrRange, 2},
		{"[[-[:digit:]]", api.ErrRange, 1},
		{"[[:digit:]-z]", api.ErrRange, 10},
		{"[^[:digit:]-z]", api.ErrRange, 11},
		{"[[:digit:]-z", api.ErrRange, 10},
		{"[[:digit:]--]", api.ErrRange, 10},
		{"[[:digit:]--z]", api.ErrRange, 10},
		{"[[:digit:]-[:alpha:]]", api.ErrRange, 10},
		{"[[:digit:]-[:x:]]", api.ErrRange, 10},
		{"[[:digit:]-[", api.ErrRange, 10},
		{"[x[:alpha:][:digit:]-z]", api.ErrRange, 20},
	})
}

func TestIntervals(t *testing.T) {
	checkGood(t, []string{
		`a\{0\}`, `a\{1\}`, `a\{20\}`, `a\{0020\}`, `a\{0,\}`, `a\{20,\}`, `a\{0,0\}`, `a\{0,20\}`, `a\{20,20\}`, `a\{2,2\}`, `a\{002,0003\}`,
		`a\{00000000000000000000000000000000000000000000000000001\}`, `.\{2\}`, `[a]\{2\}`, `\(a\)\{2\}`, `\(a\)\1\{2\}`, `\.\{2\}`, `a*\{2\}`, `a\{2\}*`,
		`a\{2\}\{3\}`, `a\{2,\}\{3,4\}*`, "a**", "a***", `a\{2\}\{2\}\{2\}`, `\(a\{2\}\)`, `\(\)\{2\}`,
	})
	checkCompile(t, []compileCase{
		{`a\{`, api.ErrCount, 1},
		{`a\{2`, api.ErrCount, 1},
		{`a\{2\`, api.ErrCount, 1},
		{`a\{2,`, api.ErrCount, 1},
		{`a\{2,3`, api.ErrCount, 1},
		{`a\{2,3\`, api.ErrCount, 1},
		{`a\{\}`, api.ErrCount, 1},
		{`a\{,\}`, api.ErrCount, 1},
		{`a\{,2\}`, api.ErrCount, 1},
		{`a\{2}`, api.ErrCount, 1},
		{`a\{2,3}`, api.ErrCount, 1},
		{`a\{2 \}`, api.ErrCount, 1},
		{`a\{ 2\}`, api.ErrCount, 1},
		{`a\{2, 3\}`, api.ErrCount, 1},
		{`a\{2,3,4\}`, api.ErrCount, 1},
		{`a\{2,,\}`, api.ErrCount, 1},
		{`a\{+2\}`, api.ErrCount, 1},
		{`a\{-1\}`, api.ErrCount, 1},
		{`a\{x\}`, api.ErrCount, 1},
		{`a\{2,x\}`, api.ErrCount, 1},
		{`a\{2x\}`, api.ErrCount, 1},
		{`a\{2\)`, api.ErrCount, 1},
		{`a\{2,1\}`, api.ErrCount, 1},
		{`a\{1,0\}`, api.ErrCount, 1},
		{`a\{20,19\}`, api.ErrCount, 1},
		{`a\{21\}`, api.ErrCount, 1},
		{`a\{21,\}`, api.ErrCount, 1},
		{`a\{0,21\}`, api.ErrCount, 1},
		{`a\{21,21\}`, api.ErrCount, 1},
		{`a\{0021\}`, api.ErrCount, 1},
		{`a\{100\}`, api.ErrCount, 1},
		{`a\{4294967298\}`, api.ErrCount, 1},
		{`a\{18446744073709551618\}`, api.ErrCount, 1},
		{`a\{1,18446744073709551618\}`, api.ErrCount, 1},
		{`ab*\{2`, api.ErrCount, 3},
		{`a\{2\}\{3`, api.ErrCount, 6},
	})
}

func TestGroupsOfAPattern(t *testing.T) {
	nine := strings.Repeat(`\(\)`, api.MaxGroups)
	nested := strings.Repeat(`\(`, api.MaxGroups) + strings.Repeat(`\)`, api.MaxGroups)
	checkGood(t, []string{`\(\)`, `\(a\)`, `\(\(\)\)`, `\(a\)\(b\)`, nine, nested, nine + `\9`, `[\)]`, `[\(]`, `\\(`, `\\)`})
	checkCompile(t, []compileCase{
		{`\)`, api.ErrClose, 0},
		{`a\)`, api.ErrClose, 1},
		{`\(a\)\)b`, api.ErrClose, 5},
		{`\)\(`, api.ErrClose, 0},
		{`\(\(\)\)\)`, api.ErrClose, 8},
		{`[\(]\)`, api.ErrClose, 4},
		{nine + `\(`, api.ErrGroup, 36},
		{nine + `a\(\)`, api.ErrGroup, 37},
		{nested + `\(\)`, api.ErrGroup, 36},
		{strings.Repeat(`\(`, 10), api.ErrGroup, 18},
		{`\(`, api.ErrOpen, 0},
		{`a\(`, api.ErrOpen, 1},
		{`\(a\(b`, api.ErrOpen, 3},
		{`\(a\(b\)`, api.ErrOpen, 0},
		{`\(\(\(\)`, api.ErrOpen, 2},
		{`\(\(\)\(\)a\(`, api.ErrOpen, 11},
		{`\(\)\(\(\)\(\)`, api.ErrOpen, 4},
		{`\(a\\)`, api.ErrOpen, 0},
		{`\(a[\)]`, api.ErrOpen, 0},
	})
}

func TestReferences(t *testing.T) {
	checkGood(t, []string{
		`\(a\)\1`, `\(\)\1`, `\(a\)\1\1\1\1`, `\(a\)\(b\)\1\2`, `\(a\)\(b\)\2\1\2\1`, `\(a\)\(b\)\(c\)\1\3\1\3`, `\(\(a\)\)\2\1`,
		`\(\(a\)\2\)\1`, `\(a\)\(b\1\)`, `\(a\)*\1*`, `\(a\)\1\{2\}`, `\(a\)\10`, `\(a\)[\2]`,
	})
	checkCompile(t, []compileCase{
		{`\1`, api.ErrBack, 0},
		{`\9`, api.ErrBack, 0},
		{`a\1\(b\)`, api.ErrBack, 1},
		{`\(\1`, api.ErrBack, 2},
		{`\(a\1\)`, api.ErrBack, 3},
		{`\(a\(b\)\1\)`, api.ErrBack, 8},
		{`\(\(a\2\)\)`, api.ErrBack, 5},
		{`\(a\)\2`, api.ErrBack, 5},
		{`\(a\)\9`, api.ErrBack, 5},
		{`\(a\)\1\2`, api.ErrBack, 7},
		{`\(a\)\(b\)\(c\)\1\3\2`, api.ErrBack, 19},
		{`\(a\)\(b\)\(c\)\1\3\1\2`, api.ErrBack, 21},
		{`\(a\)\(b\)\(c\)\3\2\3\2\1`, api.ErrBack, 23},
		{`\(a\)\1\(b\)\2\(c\)\3`, api.ErrBack, 19},
	})
}

func TestSizes(t *testing.T) {
	const group = `\(a\{20\}\)` // of size 23
	checkCompile(t, []compileCase{
		{group + `\{8\}`, api.OK, 0},
		{group + `\{9\}`, api.ErrBig, 0},
		{group + `\{0,8\}`, api.OK, 0},
		{group + `\{0,9\}`, api.ErrBig, 0},
		{group + `\{7,\}`, api.OK, 0},
		{group + `\{8,\}`, api.ErrBig, 0},
		{group + `\{8\}` + strings.Repeat("a", 14), api.OK, 0},
		{group + `\{8\}` + strings.Repeat("a", 15), api.ErrBig, 0},
		{group + `\{8\}` + strings.Repeat(".", 14), api.OK, 0},
		{group + `\{8\}` + strings.Repeat(".", 15), api.ErrBig, 0},
		{group + `\{8\}` + strings.Repeat("[a]", 14), api.OK, 0},
		{group + `\{8\}^` + strings.Repeat("a", 12) + "$", api.OK, 0},
		{"^" + group + `\{8\}` + strings.Repeat("a", 12) + "$", api.OK, 0},
		{"^" + group + `\{8\}` + strings.Repeat("a", 13) + "$", api.ErrBig, 0},
		{group + `\{8\}` + strings.Repeat(`\1`, 14), api.OK, 0},
		{group + `\{8\}` + strings.Repeat(`\1`, 15), api.ErrBig, 0},
		{group + `\{8\}` + strings.Repeat(`a*`, 7), api.OK, 0},
		{group + `\{8\}` + strings.Repeat(`a*`, 7) + "a", api.ErrBig, 0},
		{group + `\{8\}a` + strings.Repeat(`*`, 13), api.OK, 0},
		{group + `\{8\}a` + strings.Repeat(`*`, 14), api.ErrBig, 0},
		{group + `\{8\}` + strings.Repeat(`\(\)`, 7), api.OK, 0},
		{group + `\{8\}` + strings.Repeat(`\(\)`, 7) + "a", api.ErrBig, 0},
		{group + `\{8\}a\{0\}` + strings.Repeat("a", 12), api.OK, 0},
		{group + `\{8\}a\{0\}` + strings.Repeat("a", 13), api.ErrBig, 0},
		{group + `\{8\}a\{0,0\}` + strings.Repeat("a", 12), api.OK, 0},
		{group + `\{8\}a\{0,0\}` + strings.Repeat("a", 13), api.ErrBig, 0},
		{group + `\{8\}a\{0,\}` + strings.Repeat("a", 12), api.OK, 0},
		{group + `\{8\}a\{0,\}` + strings.Repeat("a", 13), api.ErrBig, 0},
		{group + `\{8\}a\{12\}a`, api.OK, 0},
		{group + `\{8\}a\{13\}a`, api.ErrBig, 0},
		{group + `\{8\}a\{2,12\}a`, api.OK, 0},
		{group + `\{8\}a\{11,\}a`, api.OK, 0},
		{group + `\{8\}a\{12,\}a`, api.ErrBig, 0},
		{group + `\{0\}` + group + `\{0\}`, api.OK, 0},
		{`a\{14\}\{13\}`, api.OK, 0},
		{`a\{14\}\{14\}`, api.ErrBig, 0},
		{"a" + strings.Repeat(`\{20\}`, 9), api.ErrBig, 0},
		{"a" + strings.Repeat(`\{20,\}`, 8), api.ErrBig, 0},
		{"a" + strings.Repeat(`\{9\}`, 11), api.ErrBig, 0},
		{"a" + strings.Repeat(`\{20\}`, 4) + strings.Repeat(`\{0\}`, 7), api.ErrBig, 0},
		{"a" + strings.Repeat("*", api.MaxPattern-1), api.OK, 0},
	})
}

func TestWhichErrorIsFirst(t *testing.T) {
	big := `\(a\{20\}\)\{9\}`
	checkCompile(t, []compileCase{
		{`\d\1`, api.ErrEscape, 0},
		{`\1\d`, api.ErrBack, 0},
		{`a\)[b-a]`, api.ErrClose, 1},
		{`[b-a]\)`, api.ErrRange, 1},
		{`[b-a[:x:]]`, api.ErrRange, 1},
		{`[[:x:]b-a]`, api.ErrClass, 1},
		{`\(\d`, api.ErrEscape, 2},
		{`\(a\{2\d`, api.ErrCount, 3},
		{`\(\([`, api.ErrBracket, 4},
		{`\(` + big, api.ErrOpen, 0},
		{big + `\(`, api.ErrOpen, 16},
		{big + `\`, api.ErrEscape, 16},
		{big + `\)`, api.ErrClose, 16},
		{big + `[`, api.ErrBracket, 16},
		{big + `\2`, api.ErrBack, 16},
		{big, api.ErrBig, 0},
	})
}

func TestExamplesOfErrors(t *testing.T) {
	checkCompile(t, []compileCase{
		{`a\`, api.ErrEscape, 1}, {`\d`, api.ErrEscape, 0}, {`a[b`, api.ErrBracket, 1}, {`[]`, api.ErrBracket, 0}, {`[[:digits:]]`, api.ErrClass, 1},
		{`[b-a]`, api.ErrRange, 1}, {`[[:digit:]-z]`, api.ErrRange, 10}, {`[a-[:digit:]]`, api.ErrRange, 1}, {`a\{2,1\}`, api.ErrCount, 1},
		{`^\{2\}`, api.ErrCount, 1}, {`a\{21\}`, api.ErrCount, 1}, {`a\)`, api.ErrClose, 1}, {`\(a\(b`, api.ErrOpen, 3}, {`\(a\(b\)`, api.ErrOpen, 0},
		{`\1`, api.ErrBack, 0}, {`\(a\1\)`, api.ErrBack, 3}, {`\(a\{20\}\)\{8\}`, api.OK, 0}, {`\(a\{20\}\)\{9\}`, api.ErrBig, 0},
	})
	checkGood(t, []string{`[\]`, `[[a]`, `[[:digit:]-]`, `a\{0020\}`, `*\{2\}`, `a**`})
}

func TestHowManyGroups(t *testing.T) {
	for _, c := range []struct {
		pattern string
		want    int
	}{
		{"", 0}, {"abc", 0}, {"(a)", 0}, {`[\(]`, 0}, {`\\(`, 0}, {`\(\)`, 1}, {`\(a\)*`, 1}, {`\(a\)\{0\}`, 1}, {`\(a\)\{3\}`, 1}, {`\(a\)\1`, 1},
		{`\(a\)b\(c\)`, 2}, {`\(\(a\)\(\)\)*\1`, 3}, {`\(\(\(\(\)\)\)\)`, 4}, {strings.Repeat(`\(\)`, 9), 9},
	} {
		x, errno, _ := Compile(c.pattern)
		if x == nil || errno != api.OK {
			t.Errorf("Compile(%q): %v, error %d", c.pattern, x, errno)
			continue
		}
		if got := x.Groups(); got != c.want {
			t.Errorf("Groups() of %q: %d, want %d", c.pattern, got, c.want)
		}
	}
}

package syntax

import (
	"fmt"
	"slices"
	"strings"
	"testing"

	"bre/api"
)

func list(s *Set) string {
	var b strings.Builder
	for c := 0; c < 256; c++ {
		if s.Has(byte(c)) {
			b.WriteByte(byte(c))
		}
	}
	return b.String()
}

// show writes a row with its items spelt out: <bytes of a set>, ., begin, end, back n, n(row), {least,most row}.
func show(row []Item) string {
	var parts []string
	for _, x := range row {
		text := "?"
		switch x.Kind {
		case One:
			text = "<" + list(&x.Set) + ">"
			if len(text) == 258 {
				text = "."
			}
		case Begin:
			text = "begin"
		case End:
			text = "end"
		case Back:
			text = fmt.Sprintf("back %d", x.Number)
		case Group:
			text = fmt.Sprintf("%d(%s)", x.Number, show(x.Row))
		case Repeat:
			text = fmt.Sprintf("{%d,%d %s}", x.Least, x.Most, show(x.Row))
		}
		parts = append(parts, text)
	}
	return strings.Join(parts, " ")
}

func TestTrees(t *testing.T) {
	for _, c := range []struct {
		pattern string
		want    string
	}{
		{"", ""},
		{"ab", "<a> <b>"},
		{".", "."},
		{"^a^", "begin <a> <^>"},
		{"^^", "begin <^>"},
		{"$a$", "<$> <a> end"},
		{"$$", "<$> end"},
		{"^$", "begin end"},
		{`\(^a$\)b$`, "1(begin <a> end) <b> end"},
		{`a\(^\)$\(b\)`, "<a> 1(begin) <$> 2(<b>)"},
		{`\($\)`, "1(end)"},
		{`$\\)`, `<$> <\> <)>`},
		{"*a*", "<*> {0,-1 <a>}"},
		{"^*a", "begin <*> <a>"},
		{"^**", "begin {0,-1 <*>}"},
		{`\(*a\)*`, "{0,-1 1(<*> <a>)}"},
		{`\(^*\)`, "1(begin <*>)"},
		{"^^*", "begin {0,-1 <^>}"},
		{"$*", "{0,-1 <$>}"},
		{"ab*c", "<a> {0,-1 <b>} <c>"},
		{"a**", "{0,-1 {0,-1 <a>}}"},
		{`a*\{2\}`, "{2,2 {0,-1 <a>}}"},
		{`ab\{3\}`, "<a> {3,3 <b>}"},
		{`a\{3,\}`, "{3,-1 <a>}"},
		{`a\{0,20\}`, "{0,20 <a>}"},
		{`a\{002,010\}`, "{2,10 <a>}"},
		{`a\{0\}`, "{0,0 <a>}"},
		{`[ab]\{2\}`, "{2,2 <ab>}"},
		{`\(\)`, "1()"},
		{`\(a\)\(b\)`, "1(<a>) 2(<b>)"},
		{`\(a\(b\)\(c\)\)\(d\)`, "1(<a> 2(<b>) 3(<c>)) 4(<d>)"},
		{`\(\(a\)*b\)\2*\1\{2\}`, "1({0,-1 2(<a>)} <b>) {0,-1 back 2} {2,2 back 1}"},
		{`\(a\)\10`, "1(<a>) back 1 <0>"},
		{`\.\[\]\*\^\$\\`, `<.> <[> <]> <*> <^> <$> <\>`},
		{`\**`, "{0,-1 <*>}"},
		{"a]b", "<a> <]> <b>"},
		{"({2,})", "<(> <{> <2> <,> <}> <)>"},
		{"\x00\xff", "<\x00> <\xff>"},
		{`[\]a`, `<\> <a>`},
	} {
		tree, errno, at := Parse(c.pattern)
		if errno != api.OK || at != 0 {
			t.Errorf("Parse(%q): error %d at %d", c.pattern, errno, at)
			continue
		}
		if got := show(tree.Row); got != c.want {
			t.Errorf("Parse(%q): %s, want %s", c.pattern, got, c.want)
		}
	}
}

func TestNoTreeBesideAnError(t *testing.T) {
	for _, p := range []string{strings.Repeat("a", 61), "a\n", `\(a\)\`, `\(a\)[`, `\(a\)\(b`, `a\{20\}\{20\}`} {
		tree, errno, _ := Parse(p)
		if errno == api.OK || tree.Row != nil || tree.Groups != 0 || tree.Refs != nil {
			t.Errorf("Parse(%q): %v beside error %d", p, tree, errno)
		}
	}
}

func TestWhichAreReferredTo(t *testing.T) {
	for _, c := range []struct {
		pattern string
		want    []int
	}{
		{"", nil}, {`\(a\)`, nil}, {`\(a\)[\1]`, nil}, {`\(a\)\1`, []int{1}}, {`\(a\)\1\1`, []int{1}}, {`\(a\)\1\{0\}`, []int{1}},
		{`\(a\)\(b\)\2`, []int{2}}, {`\(a\)\(b\)\2\1\2`, []int{2, 1}}, {`\(\(a\)\2\)\1`, []int{2, 1}},
	} {
		tree, errno, _ := Parse(c.pattern)
		if errno != api.OK || !slices.Equal(tree.Refs, c.want) {
			t.Errorf("Parse(%q): %v are referred to, error %d; want %v", c.pattern, tree.Refs, errno, c.want)
		}
	}
}

func span(first, last int) string {
	var b strings.Builder
	for c := first; c <= last; c++ {
		b.WriteByte(byte(c))
	}
	return b.String()
}

func TestBrackets(t *testing.T) {
	upper, lower, digit := span('A', 'Z'), span('a', 'z'), span('0', '9')
	for _, c := range []struct {
		bracket string
		members string
	}{
		{"[a]", "a"}, {"[abca]", "abc"}, {"[]]", "]"}, {"[]a]", "]a"}, {"[a^]", "a^"}, {`[\]`, `\`}, {`[\.*$]`, `\.*$`}, {"[[]", "["}, {"[[a]", "[a"}, {"[:a]", ":a"},
		{"[-]", "-"}, {"[a-]", "a-"}, {"[-a]", "-a"}, {"[--]", "-"}, {"[---]", "-"}, {"[]-]", "]-"},
		{"[a-c]", "abc"}, {"[a-a]", "a"}, {"[a-cx-z]", "abcxyz"}, {"[a-c-]", "abc-"}, {"[a-c-e]", "abc-e"}, {"[%--]", "%&'()*+,-"}, {"[+--]", "+,-"}, {"[--/]", "-./"},
		{"[a-c--/]", "abc-./"}, {"[]-a]", "]^_`a"}, {"[Y-[]", "YZ["}, {"[[-^]", `[\]^`}, {"[\x00-\xff]", span(0, 255)}, {"[\xfe-\xff]", "\xfe\xff"},
		{"[[:alpha:]]", upper + lower}, {"[[:digit:]]", digit}, {"[[:alnum:]]", upper + lower + digit}, {"[[:upper:]]", upper}, {"[[:lower:]]", lower},
		{"[[:space:]]", "\t\n\v\f\r "}, {"[[:digit:]-]", digit + "-"}, {"[x[:digit:][:upper:]a-c]", "xabc" + digit + upper},
	} {
		checkSet(t, c.bracket, c.members, false)
		checkSet(t, "[^"+c.bracket[1:], c.members, true)
	}
	checkSet(t, "[^^]", "^", true)
	checkSet(t, "[^-^]", "-^", true)
}

func checkSet(t *testing.T, bracket string, members string, negated bool) {
	t.Helper()
	tree, errno, at := Parse(bracket)
	if errno != api.OK || at != 0 || len(tree.Row) != 1 || tree.Row[0].Kind != One {
		t.Errorf("Parse(%q): %v, error %d at %d", bracket, tree, errno, at)
		return
	}
	for c := 0; c < 256; c++ {
		want := (strings.IndexByte(members, byte(c)) >= 0) != negated
		if got := tree.Row[0].Set.Has(byte(c)); got != want {
			t.Errorf("Parse(%q): byte %d: %v, want %v", bracket, c, got, want)
		}
	}
}

func TestSizesOfRows(t *testing.T) {
	for _, c := range []struct {
		pattern string
		size    int
	}{
		{"", 1}, {"a", 2}, {".", 2}, {"[a-z]", 2}, {"^", 2}, {"$", 2}, {"abc", 4}, {"a*", 3}, {"a**", 4}, {`\(\)`, 3}, {`\(a\)`, 4}, {`\(a\)\1`, 5}, {`\(\(\)\)`, 5},
		{`a\{3\}`, 5}, {`a\{3,\}`, 6}, {`a\{3,5\}`, 7}, {`a\{0\}`, 3}, {`a\{0,\}`, 3}, {`a\{0,0\}`, 3}, {`a\{2\}\{3\}`, 11}, {`\(a\{20\}\)\{8\}`, 186},
	} {
		tree, errno, _ := Parse(c.pattern)
		if errno != api.OK {
			t.Errorf("Parse(%q): error %d", c.pattern, errno)
			continue
		}
		if got := rowSize(tree.Row); got != c.size {
			t.Errorf("the size of %q: %d, want %d", c.pattern, got, c.size)
		}
	}
}

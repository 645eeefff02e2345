package machine

import (
	"strings"
	"testing"

	"bre/api"
	"bre/syntax"
)

func build(t *testing.T, pattern string) Code {
	t.Helper()
	tree, errno, at := syntax.Parse(pattern)
	if errno != api.OK {
		t.Fatalf("Parse(%q): error %d at %d", pattern, errno, at)
	}
	return Build(tree)
}

func TestSteps(t *testing.T) {
	for _, c := range []struct {
		pattern string
		steps   int // with the last one, which tells a match
	}{
		{"", 1}, {"a", 2}, {"^a$", 4}, {`\(\)`, 1}, {`\(ab\)`, 3}, {"a*", 3}, {"a**", 3}, {`\(\)*`, 2}, {"a" + strings.Repeat("*", 59), 3},
		{`a\{0\}`, 1}, {`a\{1\}`, 2}, {`a\{20\}`, 21}, {`a\{0,20\}`, 41}, {`a\{20,20\}`, 21}, {`a\{3,5\}`, 8}, {`a\{0,\}`, 3}, {`a\{20,\}`, 23},
		{`\(a\{20\}\)\{8\}`, 161}, {`\(a\{0,20\}\)\{0,8\}`, 329}, {`\(a\{20\}\)\{0\}`, 1}, {`\(\(\)\{0,20\}\)\{0,3\}`, 64},
	} {
		code := build(t, c.pattern)
		if got := len(code.steps); got != c.steps {
			t.Errorf("%q: %d steps, want %d", c.pattern, got, c.steps)
		}
	}
}

func TestStepsWithReferences(t *testing.T) {
	for _, c := range []struct {
		pattern string
		steps   int
		levels  int
	}{
		{`\(a\)\1`, 5, 5}, {`\(a\)\(b\)\1`, 6, 6}, {`\(a\)\(b\)\2\1`, 9, 9}, {`\(a\)\1\{0\}`, 4, 4}, {`\(a\)\{3\}\1`, 11, 11}, {`\(a\)*\1`, 6, 6},
		// A time has levels only if it might have no byte.
		{`\(a*\)*\1`, 8, 13}, {`\(a\)\1*`, 7, 9}, {`\(a\)\1***`, 7, 9}, {`\(\)\{0,2\}\1`, 10, 16}, {`\(a*b\)*\1`, 8, 8}, {`\(\(a\{2,\}\)\)*\1`, 9, 9}, {`\(a*\)\{2\}\1`, 10, 10}, {`\(\(a*\)*\)*\2`, 10, 22},
	} {
		code := build(t, c.pattern)
		if len(code.steps) != c.steps || code.levels != c.levels {
			t.Errorf("%q: %d steps, %d levels, want %d, %d", c.pattern, len(code.steps), code.levels, c.steps, c.levels)
		}
	}
}

func TestEveryStepLeadsToAStep(t *testing.T) {
	for _, pattern := range []string{"", `^\(a*b\{2,3\}\)*$`, `\(\(a\)*\)\{2,\}`, `\(\(\)*\)\{0,4\}[a-c]`, `\(a\)\1`, `\(\(a*\)*\2*\)*\1`, `\(\(a*\)\{0,3\}b*\)\{2,\}\1`} {
		code := build(t, pattern)
		for i, x := range code.steps {
			if x.next < 0 || x.next >= len(code.steps) || x.other < 0 || x.other >= len(code.steps) {
				t.Errorf("%q: step %d leads to %d and %d", pattern, i, x.next, x.other)
			}
		}
	}
}

// A way takes its level along: the step that it comes to must have it.
func TestLevelsFit(t *testing.T) {
	for _, pattern := range []string{`\(a\)\1`, `\(\(a*\)*\2*\)*\1`, `\(\(a*\)\{0,3\}b*\)\{2,\}\1`, `\(\(\)*\(\(a*\)*\)\{0,3\}\)*\1*`} {
		code := build(t, pattern)
		levels := 0
		for i, x := range code.steps {
			if x.first != levels {
				t.Errorf("%q: step %d has its first level at %d, want %d", pattern, i, x.first, levels)
			}
			levels += x.depth + 1
			next := code.steps[x.next].depth
			fits := next == x.depth
			switch x.kind {
			case done:
				fits = x.depth == 0
			case fork:
				fits = (fits || next == x.depth+1) && code.steps[x.other].depth == x.depth
			case gain:
				fits = next == x.depth-1
			}
			if !fits {
				t.Errorf("%q: step %d of depth %d leads to depth %d", pattern, i, x.depth, next)
			}
		}
		if levels != code.levels {
			t.Errorf("%q: %d levels, want %d", pattern, code.levels, levels)
		}
	}
}

func TestPartsOfALine(t *testing.T) {
	for _, c := range []struct {
		line string
		want int
	}{{"", 1}, {"a", 2}, {"aaa", 4}, {"abab", 8}, {strings.Repeat("a", 24), 25}, {"abcdefghijklmnopqrstuvwx", 301}, {"\x00\xff\n\x00", 10}} {
		p := partsOf(c.line)
		if len(p.list) != c.want {
			t.Errorf("%q: %d parts, want %d", c.line, len(p.list), c.want)
		}
		for i := 0; i <= len(c.line); i++ {
			for j := i; j <= len(c.line); j++ {
				checkPart(t, c.line, p.list[p.number[i][j]], c.line[i:j])
			}
		}
	}
}

func checkPart(t *testing.T, line string, p part, want string) {
	t.Helper()
	if p.size != len(want) {
		t.Errorf("%q: the part %q has size %d", line, want, p.size)
	}
	for place := 0; place < 32; place++ {
		stands := place <= len(line) && strings.HasPrefix(line[place:], want)
		if p.at.has(place) != stands {
			t.Errorf("%q: the part %q at %d: %v", line, want, place, !stands)
		}
	}
}

func TestNoCodeFindsNothing(t *testing.T) {
	code := Code{}
	i, j, found := code.Find("a", 0)
	if i != 0 || j != 0 || found {
		t.Errorf("%d, %d, %v", i, j, found)
	}
}

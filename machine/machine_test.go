package machine

import (
	"strings"
	"testing"

	"bre/api"
	"bre/syntax"
)

func build(t *testing.T, pattern string) Code {
	t.Helper()
	tree, errno, at := syntax.Parse(pattern)
	if errno != api.OK {
		t.Fatalf("Parse(%q): error %d at %d", pattern, errno, at)
	}
	return Build(tree.Row)
}

func TestSteps(t *testing.T) {
	for _, c := range []struct {
		pattern string
		steps   int // with the last one, which tells a match
	}{
		{"", 1}, {"a", 2}, {"^a$", 4}, {`\(\)`, 1}, {`\(ab\)`, 3}, {"a*", 3}, {"a**", 4}, {`\(\)*`, 2}, {"a" + strings.Repeat("*", 59), 61},
		{`a\{0\}`, 1}, {`a\{1\}`, 2}, {`a\{20\}`, 21}, {`a\{0,20\}`, 41}, {`a\{20,20\}`, 21}, {`a\{3,5\}`, 8}, {`a\{0,\}`, 3}, {`a\{20,\}`, 23},
		{`\(a\{20\}\)\{8\}`, 161}, {`\(a\{0,20\}\)\{0,8\}`, 329}, {`\(a\{20\}\)\{0\}`, 1}, {`\(\(\)\{0,20\}\)\{0,3\}`, 64},
	} {
		code := build(t, c.pattern)
		if got := len(code.steps); got != c.steps {
			t.Errorf("%q: %d steps, want %d", c.pattern, got, c.steps)
		}
	}
}

func TestEveryStepLeadsToAStep(t *testing.T) {
	for _, pattern := range []string{"", `^\(a*b\{2,3\}\)*$`, `\(\(a\)*\)\{2,\}`, `\(\(\)*\)\{0,4\}[a-c]`} {
		code := build(t, pattern)
		for i, x := range code.steps {
			if x.next < 0 || x.next >= len(code.steps) || x.other < 0 || x.other >= len(code.steps) {
				t.Errorf("%q: step %d leads to %d and %d", pattern, i, x.next, x.other)
			}
		}
	}
}

func TestNoCodeFindsNothing(t *testing.T) {
	code := Code{}
	i, j, found := code.Find("a", 0)
	if i != 0 || j != 0 || found {
		t.Errorf("%d, %d, %v", i, j, found)
	}
}

package grep

import (
	"math"
	"strings"
	"testing"

	"bre/api"
)

// The bytes that mean something in a pattern, and some that don't.
const alphabet = "a\\(){}1,[]^-:$*.\n\xff"

// next: the numbers of a fixed row, so that a failure comes again.
func next(seed uint32) uint32 {
	return seed*1664525 + 1013904223
}

// checkCalls makes every call of a pattern; a panic or a call that does not end fails the test.
func checkCalls(t *testing.T, pattern string) {
	t.Helper()
	x, errno, at := Compile(pattern)
	if (x == nil) != (errno != api.OK) {
		t.Errorf("Compile(%q): pattern %v beside error %d", pattern, x, errno)
	}
	if at < 0 || at > len(pattern) || errno == api.OK && at != 0 {
		t.Errorf("Compile(%q): error %d at %d", pattern, errno, at)
	}
	if groups := x.Groups(); groups < 0 || groups > api.MaxGroups || groups > 0 && x == nil {
		t.Errorf("Groups() of %q: %d", pattern, groups)
	}
	for k, line := range []string{"", "a", "a\n\xff", "aaaa"} {
		for _, from := range []int{math.MinInt, -1, 0, 1, len(line), len(line) + 1, math.MaxInt} {
			x.Find(line, from)
		}
		x.All(line)
		out, status := Grep(pattern, line, optionsOf(k*3))
		if (status == 2) != (x == nil) || status < 0 || status > 2 || status == 2 && out != "" {
			t.Errorf("Grep(%q, %q): %q, %d, beside error %d", pattern, line, out, status, errno)
		}
	}
}

func TestEveryShortPattern(t *testing.T) {
	level := []string{""}
	for length := 0; length <= 3; length++ {
		var longer []string
		for _, p := range level {
			checkCalls(t, p)
			for i := 0; i < len(alphabet); i++ {
				longer = append(longer, p+alphabet[i:i+1])
			}
		}
		level = longer
	}
}

func TestLongerPatterns(t *testing.T) {
	parts := []string{"a", "b", ".", "*", "^", "$", "[", "]", "-", "[:", ":]", "[:digit:]", "[^", "[]", `\(`, `\)`, `\{`, `\}`, `\{2\}`, `\{1,\}`, `\{0,20\}`, `\1`, `\2`, `\3`, `\`, `\.`, ",", "20", "\x00"}
	seed := uint32(1)
	for i := 0; i < 20000; i++ {
		pattern := ""
		seed = next(seed)
		for n := seed >> 27; n > 0; n-- {
			seed = next(seed)
			pattern += parts[int(seed>>8)%len(parts)]
		}
		checkCalls(t, pattern)
	}
}

func TestGreatStrings(t *testing.T) {
	for _, part := range []string{"a", `\`, "[", `\(`, "*", "\n", "\x00"} {
		great := strings.Repeat(part, 1000000)
		x, errno, at := Compile(great)
		if x != nil || errno != api.ErrLong || at != 0 {
			t.Errorf("Compile(1000000 times %q): %v, %d, %d", part, x, errno, at)
		}
		checkEveryOption(t, great, great, "", 2)
		checkEveryOption(t, great, "a", "", 2)
	}
}

func TestCallsOfNoPattern(t *testing.T) {
	for _, x := range []*Prog{nil, {}} {
		if got := x.Groups(); got != 0 {
			t.Errorf("Groups() of no pattern: %d", got)
		}
		if i, j, ok := x.Find("a", 0); i != 0 || j != 0 || ok {
			t.Errorf("Find of no pattern: %d, %d, %v", i, j, ok)
		}
		if spans := x.All("a"); len(spans) != 0 {
			t.Errorf("All of no pattern: %v", spans)
		}
	}
}

func TestNoPatternHangsOnAnother(t *testing.T) {
	var patterns []*Prog
	for i := 0; i < 1000; i++ {
		x, errno, _ := Compile(strings.Repeat(`\(a*\)`, i%10))
		if x == nil || errno != api.OK {
			t.Fatalf("pattern %d: error %d", i, errno)
		}
		patterns = append(patterns, x)
		Compile(`\(\(b\)\2\)\(`)
	}
	for i, x := range patterns {
		if got := x.Groups(); got != i%10 {
			t.Errorf("Groups() of pattern %d: %d, want %d", i, got, i%10)
		}
	}
}

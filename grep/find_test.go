package grep

import (
	"math"
	"strings"
	"testing"

	"bre/api"
)

type findCase struct {
	pattern string
	line    string
	i, j    int // i is -1 where nothing is to be found
}

func mustCompile(t *testing.T, pattern string) *Prog {
	t.Helper()
	x, errno, at := Compile(pattern)
	if x == nil || errno != api.OK {
		t.Fatalf("Compile(%q): %v, error %d at %d", pattern, x, errno, at)
	}
	return x
}

func checkFind(t *testing.T, x *Prog, pattern, line string, from, i, j int) {
	t.Helper()
	want := i >= 0
	if !want {
		i, j = 0, 0
	}
	gotI, gotJ, got := x.Find(line, from)
	if gotI != i || gotJ != j || got != want {
		t.Errorf("%q in %.60q from %d: %d, %d, %v, want %d, %d, %v", pattern, line, from, gotI, gotJ, got, i, j, want)
	}
}

func checkFinds(t *testing.T, cases []findCase) {
	t.Helper()
	for _, c := range cases {
		checkFind(t, mustCompile(t, c.pattern), c.pattern, c.line, 0, c.i, c.j)
	}
}

func TestExamplesOfFind(t *testing.T) {
	checkFinds(t, []findCase{
		{"a*", "baaa", 0, 0}, {"aa*", "baaab", 1, 4}, {"", "abc", 0, 0}, {"*a", "b*a", 1, 3}, {"^*a", "*a", 0, 2},
		{`\(^a\)`, "ba", -1, 0}, {`a\(b$\)`, "xab", 1, 3}, {"a^b", "a^b", 0, 3}, {"a$b", "a$b", 0, 3}, {"x*$", "ayxx", 2, 4}, {"^$", "x", -1, 0},
		{"[]a]*", "a]a", 0, 3}, {"[^]a]", "]ab", 2, 3}, {"[a-c-]*", "b-ad", 0, 3}, {"[[:digit:]x][[:alpha:]]", "12xy", 1, 3}, {`\.\*\\`, `x.*\`, 1, 4},
		{`a\{2,3\}`, "aaaab", 0, 3}, {`a\{3,\}b`, "aabaaaab", 3, 8}, {`\(ab\)\{2\}`, "ababab", 0, 4}, {`a\{0\}`, "aa", 0, 0}, {`a*\{2\}b`, "aab", 0, 3},
		{`\(a*\)*b`, "aab", 0, 3}, {`\(a*\)\{2\}b`, "b", 0, 1}, {`\(^\)*a`, "ba", 1, 2},
	})
}

func TestFirstThenLongest(t *testing.T) {
	checkFinds(t, []findCase{
		{"a", "", -1, 0}, {"", "", 0, 0}, {"a*", "", 0, 0}, {"a", "bbb", -1, 0},
		{"a", "aaa", 0, 1}, {"ab", "aab", 1, 3}, {"aab", "aaab", 1, 4}, {"a*", "aaab", 0, 3}, {"b*", "abbb", 0, 0}, {"bb*", "abab", 1, 2},
		{"abcd*", "abxabcddd", 3, 9}, {"a.*b", "xaybzbw", 1, 6}, {".*", "anything", 0, 8}, {".", "\x00", 0, 1},
		// An earlier beginning goes ahead of a longer match, and of one that ends sooner.
		{`a\(.*z\)*`, "aaz", 0, 3}, {`a\{1,2\}`, "baxaa", 1, 2}, {`x*ab\{0,1\}`, "aab", 0, 1}, {`a\(bcde\)*`, "xabcdabcde", 1, 2},
		{`\(a.....b\)\{0,1\}c`, "acxxxxbc", 0, 8}, {`\(a.....b\)\{0,1\}c`, "acxxxxxc", 1, 2}, {`\(a...d\)*\(bc\)*d`, "abcdd", 1, 4}, {`\(a...e\)*\(bc\)*d`, "abcdd", 1, 4},
		// The longest, whichever item has to give way for it.
		{`a*\(ab\)*`, "aab", 0, 3}, {`a*\(ab\)*b*`, "aabbb", 0, 5}, {`\(ab*\)*\(bc\)\{0,1\}`, "abbbc", 0, 5}, {`\(a\{0,1\}\)\(ab\)\{0,1\}`, "ab", 0, 2},
		{`\(a*\)\(ab\)*\(b*\)`, "abb", 0, 3}, {`x*`, "xxx", 0, 3}, {`\(xx\)*`, "xxx", 0, 2}, {`\(xx\)*\(xxx\)*`, "xxxxx", 0, 5},
	})
}

func TestAnchors(t *testing.T) {
	checkFinds(t, []findCase{
		{"^", "", 0, 0}, {"$", "", 0, 0}, {"^$", "", 0, 0}, {"^", "ab", 0, 0}, {"$", "ab", 2, 2}, {"^a", "ba", -1, 0}, {"^a", "aa", 0, 1}, {"a$", "ab", -1, 0}, {"a$", "aa", 1, 2},
		{"^a*$", "aaa", 0, 3}, {"^a*$", "aab", -1, 0}, {"^ab$", "ab", 0, 2}, {"^.*$", "", 0, 0},
		{"^^", "a^", -1, 0}, {"^^", "^a", 0, 1}, {"$$", "$a", -1, 0}, {"$$", "a$", 1, 2}, {"a^", "a^", 0, 2}, {"$a", "$a", 0, 2}, {"a^*b", "a^^b", 0, 4}, {"^*", "a*", -1, 0}, {"^*", "**", 0, 1}, {"^**", "**a", 0, 2},
		{`\(^\)a`, "ba", -1, 0}, {`b\(^a\)`, "ba", -1, 0}, {`b\(^a\)`, "b^a", -1, 0}, {`\(a$\)b`, "ab", -1, 0}, {`\(a$\)b`, "a$b", -1, 0}, {`a\($\)`, "aba", 2, 3}, {`\(^a\)*b`, "ab", 0, 2}, {`\(^a\)*b`, "aab", 2, 3},
		{`x*\(^a\)`, "a", 0, 1}, {`x*\(^a\)`, "xa", -1, 0}, {`\(^a$\)`, "a", 0, 1}, {`\(a$\)*`, "ba", 0, 0}, {`b\(a$\)*`, "baba", 0, 1}, {`\(^*a\)`, "x*a", -1, 0}, {`\(^*a\)`, "*a", 0, 2},
		{`\(^\)\{2\}a`, "aa", 0, 1}, {`\($\)*\(^\)*`, "a", 0, 0}, {`\(^\)\{3,\}$`, "", 0, 0}, {`\(b*$\)\{2\}`, "abb", 1, 3}, {`\(\(^\)*a\)*`, "aa", 0, 2}, {`\(^a\)\{2\}`, "aa", -1, 0},
		// A line feed is a byte of the line, and no end of it.
		{"a$", "a\na", 2, 3}, {"^b", "a\nb", -1, 0}, {"a.b", "a\nb", 0, 3}, {"[^a]", "a\n", 1, 2}, {"[[:space:]]", "a\n", 1, 2},
	})
}

func TestRepeats(t *testing.T) {
	checkFinds(t, []findCase{
		{`a\{0\}b`, "aab", 2, 3}, {`a\{1\}`, "aa", 0, 1}, {`a\{2\}`, "a", -1, 0}, {`a\{2\}`, "baa", 1, 3}, {`a\{2,\}`, "abaaa", 2, 5}, {`a\{0,\}b`, "aab", 0, 3}, {`a\{0,0\}`, "a", 0, 0},
		{`a\{0,2\}b`, "aaab", 1, 4}, {`a\{2,4\}b`, "abaaaaab", 3, 8}, {`^a\{2,4\}b`, "ab", -1, 0}, {`^a\{2,4\}b`, "aab", 0, 3}, {`^a\{2,4\}b`, "aaaab", 0, 5}, {`^a\{2,4\}b`, "aaaaab", -1, 0},
		{`^a\{20\}$`, strings.Repeat("a", 20), 0, 20}, {`^a\{20\}$`, strings.Repeat("a", 19), -1, 0}, {`^a\{20\}$`, strings.Repeat("a", 21), -1, 0}, {`^a\{20,\}$`, strings.Repeat("a", 100), 0, 100},
		{`^a\{20,\}$`, strings.Repeat("a", 19), -1, 0}, {`a\{0,20\}`, strings.Repeat("a", 30), 0, 20},
		{`\(\)`, "a", 0, 0}, {`\(\)*a`, "ba", 1, 2}, {`\(\)\{2\}a`, "ba", 1, 2}, {`\(a\)\{0\}`, "a", 0, 0}, {`\(a*\)\{2,\}`, "aaa", 0, 3}, {`\(a*\)\{3\}b`, "ab", 0, 2}, {`\(a*\)\{0,2\}`, "aaa", 0, 3},
		{`\(ab\)*`, "ababa", 0, 4}, {`\(a.\)\{2\}`, "abaca", 0, 4}, {`\(a\{2\}\)\{3\}`, "aaaaa", -1, 0}, {`\(a\{2\}\)\{3\}`, "aaaaaaa", 0, 6}, {`^\(a\{2,3\}\)\{2\}$`, "aaaaa", 0, 5}, {`^\(a\{2,3\}\)\{2\}$`, "aaa", -1, 0},
		{`a\{2\}\{3\}`, "aaaaaaa", 0, 6}, {`a\{2\}*`, "aaaaa", 0, 4}, {`^a\{2\}*$`, "aaaaa", -1, 0}, {`a\{3\}\{0,1\}b`, "aab", 2, 3}, {`a**`, "aa", 0, 2}, {`a*\{2\}`, "aa", 0, 2}, {`\(a*b*\)*c`, "abbac", 0, 5},
		{`*\{2\}`, "***", 0, 2}, {`.\{3\}`, "ab", -1, 0}, {`.\{3\}`, "abcd", 0, 3}, {`[ab]\{2,3\}`, "cabba", 1, 4}, {`\.*`, "..a", 0, 2}, {`\(\(a\)*\(b\)*\)*c`, "abbaaac", 0, 7}, {`\(\(\(\)*\)*\)*`, "a", 0, 0},
	})
}

func TestEveryByte(t *testing.T) {
	dot := mustCompile(t, ".")
	all := mustCompile(t, "^.*$")
	without := mustCompile(t, "[^a]")
	for c := 0; c < 256; c++ {
		s := string([]byte{byte(c)})
		checkFind(t, dot, ".", s, 0, 0, 1)
		checkFind(t, all, "^.*$", s+s, 0, 0, 2)
		if c == 'a' {
			checkFind(t, without, "[^a]", s, 0, -1, 0)
		} else {
			checkFind(t, without, "[^a]", s, 0, 0, 1)
		}
		if strings.Contains("\n.[*^$\\", s) {
			continue
		}
		self := mustCompile(t, s)
		for d := 0; d < 256; d++ {
			if d == c {
				checkFind(t, self, s, s, 0, 0, 1)
			} else {
				checkFind(t, self, s, string([]byte{byte(d)}), 0, -1, 0)
			}
		}
	}
}

func TestFromAPlaceOn(t *testing.T) {
	for _, c := range []struct {
		pattern string
		line    string
		from    int
		i, j    int
	}{
		{"a", "aba", 0, 0, 1}, {"a", "aba", 1, 2, 3}, {"a", "aba", 2, 2, 3}, {"a", "aba", 3, -1, 0}, {"", "ab", 1, 1, 1}, {"", "ab", 2, 2, 2}, {"a*", "aab", 1, 1, 2}, {"a*", "aab", 2, 2, 2},
		{"^a", "aa", 1, -1, 0}, {"^", "aa", 1, -1, 0}, {"^", "", 0, 0, 0}, {"$", "aa", 1, 2, 2}, {"$", "aa", 2, 2, 2}, {"a$", "aa", 1, 1, 2}, {`\(^a\)*`, "aa", 1, 1, 1}, {"aab", "aab", 1, -1, 0}, {".*", "abc", 2, 2, 3},
		{"", "ab", 3, -1, 0}, {"", "ab", -1, -1, 0}, {"", "", 1, -1, 0}, {"", "", -1, -1, 0}, {"$", "ab", 3, -1, 0}, {"a", "ab", -1, -1, 0}, {"^a", "ab", -1, -1, 0},
		{"", "ab", math.MaxInt, -1, 0}, {"", "ab", math.MinInt, -1, 0}, {"a", "ab", math.MaxInt, -1, 0}, {"a", "ab", math.MinInt, -1, 0}, {"a", "ab", 1 << 32, -1, 0}, {"a", "ab", -1 << 32, -1, 0},
	} {
		checkFind(t, mustCompile(t, c.pattern), c.pattern, c.line, c.from, c.i, c.j)
	}
}

func TestLongLines(t *testing.T) {
	const n = 200000
	as := strings.Repeat("a", n)
	for _, c := range []struct {
		pattern string
		line    string
		i, j    int
	}{
		{"a", as, 0, 1}, {"a*", as, 0, n}, {".*b", as, -1, 0}, {"a*b", as, -1, 0}, {"a*b", as + "b", 0, n + 1}, {"a$", as, n - 1, n}, {"b*$", as, n, n}, {"^a*$", as, 0, n}, {"a.*b", strings.Repeat("x", n) + "a" + strings.Repeat("b", n) + "c", n, 2*n + 1},
		{`\(a*\)*b`, as, -1, 0}, {`\(\(a*\)*a*\)*b`, as, -1, 0}, {"a" + strings.Repeat("*", 58) + "b", as, -1, 0}, {`a\{20\}b`, as, -1, 0}, {`a\{0,20\}b`, as + "b", n - 20, n + 1}, {`\(a\{20\}\)\{8\}b`, as + "b", n - 160, n + 1},
		{`\(\(a*\)\{5\}*\)\{5\}b`, as, -1, 0}, {strings.Repeat("a*", 29) + "b", as, -1, 0}, {`\(.*a\)\{20\}b`, as + "c", -1, 0}, {`\(a.*b\)\{0,1\}c`, as + "c", n, n + 1},
	} {
		checkFind(t, mustCompile(t, c.pattern), c.pattern, c.line, 0, c.i, c.j)
	}
}

func TestNoSearchHangsOnAnother(t *testing.T) {
	patterns := []string{"ab*", `\(b*\)a\1`, "^a", `\(a\)\{2\}`, `\(.\)\1$`}
	lines := []string{"", "abba", "baab", "aab", "bbbb"}
	var want [5][5]api.Span
	var shared [5]*Prog
	for p, pattern := range patterns {
		shared[p] = mustCompile(t, pattern)
		for l, line := range lines {
			want[p][l].From, want[p][l].To, _ = mustCompile(t, pattern).Find(line, 0)
		}
	}
	for k := 0; k < 100; k++ {
		p, l := k*3%5, (k/5+k)%5
		i, j, _ := shared[p].Find(lines[l], 0)
		if got := (api.Span{From: i, To: j}); got != want[p][l] {
			t.Errorf("%q in %q: %v, want %v", patterns[p], lines[l], got, want[p][l])
		}
	}
}

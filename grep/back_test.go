package grep

import (
	"math"
	"strings"
	"testing"

	"bre/api"
)

func TestExamplesOfReferences(t *testing.T) {
	checkFinds(t, []findCase{
		{`\(a*\)\1`, "aaaaa", 0, 4}, {`\(a*\)b\1`, "aaba", 1, 4}, {`\(a\)*\1`, "b", -1, 0}, {`\(a\)*\1`, "aaa", 0, 3},
		{`\(\(a\)b\)*\2`, "ababa", 0, 5}, {`\(.\)\(.\)\2\1`, "xabba", 1, 5}, {`\(a\{1,2\}\)\1\1`, "aaaaaaa", 0, 6},
	})
}

func TestFindWithReferences(t *testing.T) {
	checkFinds(t, []findCase{
		{`\(a\)\1`, "", -1, 0}, {`\(a\)\1`, "a", -1, 0}, {`\(a\)\1`, "aa", 0, 2}, {`\(a\)\1`, "aba", -1, 0}, {`\(ab\)\1`, "ababa", 0, 4}, {`\(ab\)\1`, "abaab", -1, 0}, {`\(ab\)\1`, "aba", -1, 0},
		// The bytes count, not what the group would match.
		{`\(.\)\1`, "abba", 1, 3}, {`\([ab]\)\1`, "ab", -1, 0}, {`\([ab]\)\1`, "abb", 1, 3}, {`\(.\)x\1`, "axbxb", 2, 5}, {`\([[:alpha:]]\)\1`, "aA", -1, 0}, {`\(.\)\1`, "\x00\n\n", 1, 3}, {`\(..\)\1`, "\xff\x00\xff\x00", 0, 4},
		// No bytes are bytes too.
		{`\(\)\1`, "", 0, 0}, {`\(\)\1`, "a", 0, 0}, {`\(a*\)\1`, "b", 0, 0}, {`\(\)\1x`, "yx", 1, 2}, {`\(a*\)b\1$`, "aab", 2, 3}, {`x\(\(\)\)\2\1y`, "xy", 0, 2},
		// All ways are ways: the longest of them, whatever the group gets for it.
		{`\(a*\)\1b*`, "aaabb", 0, 2}, {`\(a*\)\1$`, "aaa", 1, 3}, {`\(a*\)a*\1b`, "aaab", 0, 4}, {`\(a*\)\(a*\)\1\2$`, "aaaaa", 1, 5}, {`\(a*\)\(b*\)\2\1`, "aabba", 0, 2}, {`\(a*\)\(b*\)\2\1`, "abba", 0, 4}, {`\(.*\)c\1`, "abcabc", 0, 5}, {`\(.*\)\(.*\)\2\1`, "abcddabc", 0, 8}, {`\(.*\)\(.*\)\2\1`, "abcddab", 0, 0}, {`\(a\{1,3\}\)\(a\{0,2\}\)\2\1`, "aaaaaaa", 0, 6}, {`\(ab*\)\(b*\)\1\2`, "abbab", -1, 0}, {`\(ab*\)\(b*\)\1\2`, "abbabb", 0, 6},
		// The first beginning, though a way from there failed.
		{`\(b*\)a\1c`, "bbabc", 1, 5}, {`\(.\)..\1`, "abcdabxa", 4, 8}, {`\(..*\)\1`, "xabab", 1, 5}, {`\(..*\)\1`, "abcxx", 3, 5}, {`\(.\)\1\(.\)\2`, "aabccddx", 3, 7},
		{`\(a\)\(b\)\(c\)\(d\)\(e\)\(f\)\(g\)\(h\)\(i\)\9\1`, "abcdefghiia", 0, 11}, {`\(a\)\11`, "aa1", 0, 3}, {`\(\(a\)b\)\1\2`, "ababa", 0, 5}, {`\(\(a*\)\2\)\1`, "aaaaaaaaa", 0, 8}, {`\(\(.\)\2\)\1`, "abbbb", 1, 5},
		{`\(.\)\(.\)\1\2\1\2`, "xababab", 1, 7}, {`\(.\)\(\1\)\2`, "baaa", 1, 4},
	})
}

func TestReferencesWithAnchors(t *testing.T) {
	checkFinds(t, []findCase{
		{`^\(a\)\1$`, "aa", 0, 2}, {`^\(a\)\1$`, "aaa", -1, 0}, {`^\(a\)\1`, "baa", -1, 0}, {`\(^a\)\1`, "aa", 0, 2}, {`\(^a\)\1`, "baa", -1, 0}, {`\(a$\)\1`, "aa", -1, 0}, {`\(a\)\(\1$\)`, "aaa", 1, 3}, {`\($\)\1`, "ab", 2, 2}, {`\(^\)\1a`, "aa", 0, 1},
		{`\(^a*\)b\1$`, "aabaa", 0, 5}, {`\(^a*\)b\1$`, "aaba", -1, 0}, {`^\(.*\)\1$`, "abab", 0, 4}, {`^\(.*\)\1$`, "ababa", -1, 0}, {`\(a\)^\1`, "a^a", 0, 3}, {`\(a\)$\1`, "a$a", 0, 3}, {`\(\^\)\1`, "a^^", 1, 3},
	})
}

func TestRepeatedReferences(t *testing.T) {
	checkFinds(t, []findCase{
		{`\(ab\)\1*`, "abababa", 0, 6}, {`\(ab\)\1*`, "ab", 0, 2}, {`\(ab\)\1\{2\}`, "ababababab", 0, 6}, {`\(ab\)\1\{2\}`, "abab", -1, 0}, {`\(ab\)\1\{0\}`, "abab", 0, 2}, {`\(ab\)\1\{1,2\}`, "abababab", 0, 6}, {`\(ab\)\1\{2,\}`, "abab", -1, 0}, {`\(ab\)\1\{2,\}`, "abababab", 0, 8},
		{`\(a*\)\1\{20\}b`, "b", 0, 1}, {`\(a*\)\1\{20\}b`, strings.Repeat("a", 21) + "b", 0, 22}, {`\(a*\)\1\{20\}b`, strings.Repeat("a", 20) + "b", 20, 21}, {`\(a*\)\1\{2\}*b`, "aaaaab", 0, 6}, {`\(aa*\)\1\{2\}*c`, "aaaac", 0, 5}, {`x\(aa\)\1\{2\}*c`, "xaaaac", -1, 0},
		{`\(a\)\(\1b\)*\2`, "aababab", 0, 7}, {`\(a*\)\(\1b\)*c`, "aabc", 0, 4}, {`\(.\)\(.\)\(\1\2\)*\{2\}$`, "ababab", 0, 6},
	})
}

func TestWhatGroupsHaveMatched(t *testing.T) {
	checkFinds(t, []findCase{
		// The last time is what counts; what was matched before is forgotten.
		{`\(a*b\)*\1`, "aabbb", 0, 5}, {`\(a*b\)*\1$`, "aabbaab", -1, 0}, {`\(a*b\)*\1$`, "aabbabab", 0, 8}, {`^\(a*b\)*c\1$`, "aabbcaab", -1, 0}, {`^\(a*b\)*c\1$`, "aabbcb", 0, 6}, {`\([ab]\)\{2\}\1`, "abb", 0, 3}, {`\([ab]\)\{2\}\1`, "aba", -1, 0}, {`\(a\)\{2\}\1`, "aaa", 0, 3},
		// What an inner group has matched stays, till it matches again.
		{`\(\(a\)*b\)*c\2`, "abbca", 0, 5}, {`\(\(.\)\{0,1\}b\)*c\2`, "abbcb", 1, 5}, {`^\(\(.\)\{0,1\}b\)*c\2`, "abbxbcx", 0, 7}, {`^\(\(x\)*\(y\)*\)*-\2\3`, "xy-xy", 0, 5}, {`^\(\(x\)*\(y\)*\)*-\2\3`, "yx-xy", 0, 5}, {`^\(\(x\)*\(y\)*\)*-\2\3`, "xx-xy", -1, 0}, {`\(\(a*\)x\)\{2\}\2`, "aaxaxaa", 0, 6},
		{`\(\(a\)b\)*\2`, "b", -1, 0}, {`\(\(.\)-\2\)*`, "a-ab-ba-b", 0, 6}, {`^\(\(.\)x*\)*\2$`, "abb", 0, 3}, {`^\(\(.\)x*\)*\2$`, "aba", -1, 0}, {`^\(\(.\)x*\)*\2$`, "abxb", 0, 4},
		// A group without a match is not one that has matched no bytes.
		{`\(a\)\{0\}\1`, "aa", -1, 0}, {`\(a\)\{0,1\}\1b`, "b", -1, 0}, {`\(a\)\{0,1\}\1b`, "aab", 0, 3}, {`\(\(a\)\{0,1\}b\)\2`, "ba", -1, 0}, {`\(\(a\)\{0,1\}b\)\2`, "aba", 0, 3}, {`\(a\)\{0,1\}b\1\{0\}`, "b", 0, 1}, {`\(a\)\{0,1\}b\1*`, "b", 0, 1}, {`\(a\)\{0,1\}b\1\{0,1\}c`, "bc", 0, 2}, {`\(a\)\{0,1\}b\1\{1\}c`, "bc", -1, 0}, {`\(a\)\{0\}\(b*\)\1*\2`, "bb", 0, 2},
	})
}

func TestTimesBeyondTheLeastHaveAByte(t *testing.T) {
	checkFinds(t, []findCase{
		{`\(a*\)*\1b`, "b", -1, 0}, {`\(a*\)*\1b`, "aab", 0, 3}, {`\(a*\)*\1b`, "ab", -1, 0}, {`\(a*\)\{1,\}\1b`, "b", 0, 1}, {`\(a*\)\{1,\}\1b`, "ab", 1, 2}, {`\(a*\)\{0,3\}\1b`, "b", -1, 0}, {`\(a*\)\{1,3\}\1b`, "b", 0, 1}, {`\(a*\)\{2\}\1b`, "ab", 0, 2}, {`\(a*\)\{2\}c\1b`, "acb", 0, 3}, {`^\(a*\)\{1,\}c\1b`, "acb", -1, 0}, {`^\(a*\)\{1,2\}c\1b`, "acb", -1, 0}, {`^\(a*\)\{2,\}c\1b`, "acb", 0, 3},
		{`\(\)*\1`, "a", -1, 0}, {`\(\)\{0,20\}\1`, "a", -1, 0}, {`\(\)\{1,20\}\1`, "a", 0, 0}, {`\(^\)*\1a`, "a", -1, 0}, {`\(^\)\{1,\}\1a`, "a", 0, 1}, {`\($\)*\1`, "a", -1, 0}, {`\(^a*\)*\1b`, "b", -1, 0}, {`\(a*$\)*\1`, "b", -1, 0},
		// The byte may stand ahead of the group, or behind it, or be a reference's.
		{`\(\(\)b*\)*\2c`, "bc", 0, 2}, {`\(\(\)b*\)*\2c`, "c", -1, 0}, {`\(b*\(\)\)*\2c`, "bc", 0, 2}, {`\(b*\(\)\)*\2c`, "c", -1, 0}, {`\(a*\)\(\1\(\)\)*\3c`, "aac", 0, 3}, {`\(a*\)\(\1\(\)\)*\3c`, "ac", -1, 0}, {`\(a*\)\(\1\(\)\)*\3c`, "c", -1, 0}, {`\(a*\)\(\1\(\)\)\{1,\}\3c`, "c", 0, 1}, {`\(a*\)\(\(\)\1\)\{0,2\}\3c`, "aac", 0, 3}, {`\(a*\)\(\(\)\1\)\{0,2\}\3c`, "ac", -1, 0},
		// Times in times: each of them.
		{`\(\(a*\)*\)*\2b`, "b", -1, 0}, {`\(\(a*\)*\)*\2b`, "aab", 0, 3}, {`\(\(a*\)*\)\{1,\}\2b`, "b", -1, 0}, {`\(\(a*\)\{1,\}\)*\2b`, "b", -1, 0}, {`\(\(a*\)\{1,\}\)\{1,\}\2b`, "b", 0, 1}, {`\(a*\(\)\)**\2b`, "b", -1, 0}, {`\(a*\(\)\)**\2b`, "ab", 0, 2},
		{`^\(x\(\(\)y*\)*\)*\3z`, "xz", -1, 0}, {`^\(x\(\(\)y*\)*\)*\3z`, "xyz", 0, 3}, {`^\(x*\(\(\)y*\)*\)*\3z`, "xz", -1, 0}, {`^\(x*\(\(\)y*\)\{1,\}\)*\3z`, "xz", 0, 2}, {`^\(\(\(\)y*\)*x*\)*\3z`, "xz", -1, 0}, {`^\(\(\(\)y*\)*x*\)*\3z`, "yz", 0, 2}, {`^\(\(\(\)y*\)\{1,\}x*\)*\3z`, "xz", 0, 2}, {`^\(\(\(\)y*\)\{1,\}x*\)*\3z`, "z", -1, 0},
		{`^\(\(\(\)*y*\)*x*\)*\3z`, "yxz", -1, 0}, {`^\(y\(\(\)*x*\)*\)*\3z`, "yxz", -1, 0}, {`\(a*\)\(\(b*\)\(\1*\)*\)*c\3`, "abcb", 0, 4},
	})
}

func TestReferencesInLongLines(t *testing.T) {
	as := strings.Repeat("a", api.MaxBackLine)
	checkFinds(t, []findCase{
		{`\(a*\)\1$`, as, 0, 24}, {`\(a*\)\1$`, as + "a", -1, 0}, {`\(a*\)\1$`, as[1:], 1, 23}, {`\(a*\)$`, as + "a", 0, 25}, {`\(a\)[\1]`, as + `a\`, 24, 26}, {`\(a\)[\1]`, as + "a1", 24, 26}, {`\(a\)b*\1\{0\}`, as, 0, 1}, {`\(a\)b*\1\{0\}`, as + "a", -1, 0},
		{`\(\)\1`, as + "a", -1, 0}, {`\(\)\1$`, as, 24, 24}, {`\(.\)\1`, strings.Repeat("ab", 11) + "cc", 22, 24}, {`^\(.*\)\1$`, "abcdefghijklabcdefghijkl", 0, 24}, {`\(x\)*\1`, strings.Repeat("a", 100000), -1, 0}, {`\(a\)\1`, strings.Repeat("a", 100000), -1, 0},
	})
	x := mustCompile(t, `\(.\)\1`)
	for n := 0; n < 100; n++ {
		i := n - 2
		if n < 2 || n > api.MaxBackLine {
			i = -1
		}
		checkFind(t, x, `\(.\)\1`, strings.Repeat("ab", 50)[:max(n-2, 0)]+"cc"[:min(n, 2)], 0, i, n)
	}
}

func TestReferencesFromAPlaceOn(t *testing.T) {
	long := strings.Repeat("a", api.MaxBackLine+1)
	for _, c := range []struct {
		pattern string
		line    string
		from    int
		i, j    int
	}{
		{`\(.\)\1`, "aabb", 0, 0, 2}, {`\(.\)\1`, "aabb", 1, 2, 4}, {`\(.\)\1`, "aabb", 2, 2, 4}, {`\(.\)\1`, "aabb", 3, -1, 0}, {`\(.\)\1`, "aabb", 4, -1, 0}, {`\(.\)\1`, "aabb", 5, -1, 0}, {`\(.\)\1`, "aabb", -1, -1, 0},
		{`\(\)\1`, "ab", 2, 2, 2}, {`\(\)\1`, "ab", 3, -1, 0}, {`\(\)\1`, "", 0, 0, 0}, {`\(\)\1`, "", 1, -1, 0}, {`\(\)\1`, "", -1, -1, 0}, {`\(^a\)\1`, "aaa", 1, -1, 0}, {`\(^\)\1`, "a", 1, -1, 0}, {`\(a\)\1$`, "aaa", 1, 1, 3},
		{`\(\)\1`, "ab", math.MaxInt, -1, 0}, {`\(\)\1`, "ab", math.MinInt, -1, 0}, {`\(\)\1`, "ab", 1 << 32, -1, 0}, {`\(\)\1`, "ab", -1 << 32, -1, 0}, {`\(a\)\1`, long, 1, -1, 0}, {`\(a\)\1`, long, 23, -1, 0}, {`\(\)\1`, long, 25, -1, 0}, {`\(\)\1`, long, math.MaxInt, -1, 0},
	} {
		checkFind(t, mustCompile(t, c.pattern), c.pattern, c.line, c.from, c.i, c.j)
	}
}

// Patterns with so many ways that no search could go through them one by one.
func TestSearchesWithReferencesEnd(t *testing.T) {
	lines := []string{strings.Repeat("a", api.MaxBackLine), "abcdefghijklmnopqrstuvwx", "abababababababababababab", "aabbaabbaabbccaabbaaccdd"}
	for _, pattern := range []string{
		`\(.*\)\(.*\)\(.*\)\1\3z`, `.*\(.*\).*\(.*\)\(.\{0,20\}\)\{7\}\1\2z`, `\(.*\).*\(.*\)\(.*\)\{20\}\1\2z`, `\(\(.*\)\(.*\)*\)\{9\}\2\3z`, `\(.*\(.*\)*.*\(.*\)*\)*\(.\{0,20\}\)\{6\}\2\3z`,
		`\(\(.*\)*\(.*\)*\)*\(\(.*\)\{0,20\}\)\{1,2\}\2\3z`, `.*\(.*\).*\(.*\).` + strings.Repeat("*", 36) + `\1\2z`, `\(.*\).*\(.*\)\(\1*\2*\)*\(\1*\2*\)*\(\1*\2*\)*z`, `\(\(\(\(\(.*\)*\)*\)*.*\)*\(.*\)*\)*\(.*\)*\5\6z`,
		`\(\(\(\(\(\(\(\(\(.*\)*\)*\)*\)*\)*\)*\)*\)*\)*\9\8z`,
	} {
		x := mustCompile(t, pattern)
		for _, line := range lines {
			checkFind(t, x, pattern, line, 0, -1, 0)
		}
	}
}

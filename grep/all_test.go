package grep

import (
	"slices"
	"strings"
	"testing"

	"bre/api"
)

type allCase struct {
	pattern string
	line    string
	want    []api.Span
}

func checkAll(t *testing.T, x *Prog, pattern, line string, want []api.Span) {
	t.Helper()
	if got := x.All(line); !slices.Equal(got, want) {
		t.Errorf("all of %q in %.60q: %v, want %v", pattern, line, got, want)
	}
}

func checkAlls(t *testing.T, cases []allCase) {
	t.Helper()
	for _, c := range cases {
		checkAll(t, mustCompile(t, c.pattern), c.pattern, c.line, c.want)
	}
}

func TestExamplesOfAll(t *testing.T) {
	checkAlls(t, []allCase{
		{"a*", "baab", []api.Span{{From: 1, To: 3}}}, {"ab", "abxabab", []api.Span{{From: 0, To: 2}, {From: 3, To: 5}, {From: 5, To: 7}}}, {"^a", "aaa", []api.Span{{From: 0, To: 1}}},
	})
}

func TestMatchesThatHaveAByte(t *testing.T) {
	checkAlls(t, []allCase{
		{"a", "", nil}, {"a", "b", nil}, {"a", "a", []api.Span{{From: 0, To: 1}}}, {"a", "bab", []api.Span{{From: 1, To: 2}}}, {".", "abc", []api.Span{{From: 0, To: 1}, {From: 1, To: 2}, {From: 2, To: 3}}}, {".*", "abc", []api.Span{{From: 0, To: 3}}},
		// The next one begins where the one ahead ended, and not sooner.
		{"aa", "aaaaa", []api.Span{{From: 0, To: 2}, {From: 2, To: 4}}}, {"aba", "ababa", []api.Span{{From: 0, To: 3}}}, {"aba", "abaaba", []api.Span{{From: 0, To: 3}, {From: 3, To: 6}}}, {`a\{2,3\}`, "aaaaaaaa", []api.Span{{From: 0, To: 3}, {From: 3, To: 6}, {From: 6, To: 8}}}, {`a\{0,2\}`, "aaaba", []api.Span{{From: 0, To: 2}, {From: 2, To: 3}, {From: 4, To: 5}}},
		// Each is the longest of those that begin first.
		{"ab*", "abbabxa", []api.Span{{From: 0, To: 3}, {From: 3, To: 5}, {From: 6, To: 7}}}, {`a*\(ab\)*`, "aabxab", []api.Span{{From: 0, To: 3}, {From: 4, To: 6}}},
		// Matches without a byte: at the beginning, in the middle, at the end, right behind others, and alone.
		{"", "", nil}, {"", "ab", nil}, {"x*", "", nil}, {"x*", "ab", nil}, {"a*", "aabaa", []api.Span{{From: 0, To: 2}, {From: 3, To: 5}}}, {"a*", "aab", []api.Span{{From: 0, To: 2}}}, {"a*", "baa", []api.Span{{From: 1, To: 3}}}, {`\(ab\)*`, "aabab", []api.Span{{From: 1, To: 5}}}, {`\(\)`, "aa", nil}, {`a\{0\}`, "aa", nil}, {"b*", "abba", []api.Span{{From: 1, To: 3}}},
		{"a", "\n\x00a\xffa", []api.Span{{From: 2, To: 3}, {From: 4, To: 5}}}, {".", "\n\x00\xff", []api.Span{{From: 0, To: 1}, {From: 1, To: 2}, {From: 2, To: 3}}}, {"[^a]*", "a\nba\xff", []api.Span{{From: 1, To: 3}, {From: 4, To: 5}}},
	})
}

func TestAllWithAnchors(t *testing.T) {
	checkAlls(t, []allCase{
		{"^", "aa", nil}, {"$", "aa", nil}, {"^$", "", nil}, {"^a*", "aaa", []api.Span{{From: 0, To: 3}}}, {"^a*", "baa", nil}, {"^ab", "ababab", []api.Span{{From: 0, To: 2}}}, {`\(^a\)*`, "aaa", []api.Span{{From: 0, To: 1}}}, {`\(^a\)*b*`, "aabb", []api.Span{{From: 0, To: 1}, {From: 2, To: 4}}},
		{"a$", "aaa", []api.Span{{From: 2, To: 3}}}, {"a*$", "aba", []api.Span{{From: 2, To: 3}}}, {"a*$", "ab", nil}, {`a\{1,2\}\(a$\)*`, "aaaaa", []api.Span{{From: 0, To: 2}, {From: 2, To: 5}}}, {"a^", "a^a^", []api.Span{{From: 0, To: 2}, {From: 2, To: 4}}}, {"^.$", "ab", nil}, {"^.$", "a", []api.Span{{From: 0, To: 1}}},
		// A line feed in a line neither begins nor ends it.
		{"^a", "a\na", []api.Span{{From: 0, To: 1}}}, {"a$", "a\na", []api.Span{{From: 2, To: 3}}},
	})
}

func TestAllWithReferences(t *testing.T) {
	bs := strings.Repeat("b", api.MaxBackLine-4)
	checkAlls(t, []allCase{
		{`\(.\)\1`, "aabbbcc", []api.Span{{From: 0, To: 2}, {From: 2, To: 4}, {From: 5, To: 7}}}, {`\(.\)\1*`, "aabc", []api.Span{{From: 0, To: 2}, {From: 2, To: 3}, {From: 3, To: 4}}}, {`\(a*\)\1`, "aaabaa", []api.Span{{From: 0, To: 2}, {From: 4, To: 6}}}, {`\(a*\)\1`, "ab", nil}, {`\(a*\)b\1`, "abaabab", []api.Span{{From: 0, To: 3}, {From: 3, To: 6}, {From: 6, To: 7}}}, {`\(^a\)\1`, "aaaa", []api.Span{{From: 0, To: 2}}}, {`\(a\)\1$`, "aaaa", []api.Span{{From: 2, To: 4}}}, {`\(a\)*\1`, "b", nil}, {`\(\)\1`, "aa", nil},
		{`\(a\)\1`, "aa" + bs + "aa", []api.Span{{From: 0, To: 2}, {From: api.MaxBackLine - 2, To: api.MaxBackLine}}}, {`\(a\)\1`, "aa" + bs + "baa", nil}, {`\(a\)b*`, "aa" + bs + "baa", []api.Span{{From: 0, To: 1}, {From: 1, To: 23}, {From: 23, To: 24}, {From: 24, To: 25}}},
	})
}

func TestAllInLongLines(t *testing.T) {
	const n = 100000
	as := strings.Repeat("a", n)
	var each, pairs []api.Span
	for i := 0; i < n; i++ {
		each = append(each, api.Span{From: i, To: i + 1})
	}
	for i := 0; i < n; i += 2 {
		pairs = append(pairs, api.Span{From: i, To: i + 2})
	}
	checkAlls(t, []allCase{
		{"a", as, each}, {"aa", as + "a", pairs}, {"a*", as, []api.Span{{From: 0, To: n}}}, {"a*", "b" + as, []api.Span{{From: 1, To: n + 1}}}, {"x*", as, nil}, {"", as, nil}, {"^a", as, each[:1]}, {"a$", as, each[n-1:]}, {"a*b", as, nil}, {`\(a*\)*b`, as, nil}, {`\(a\)\1`, as, nil},
	})
}

func TestListsAreTheCallers(t *testing.T) {
	const line = "abxabbxa"
	want := []api.Span{{From: 0, To: 2}, {From: 3, To: 6}, {From: 7, To: 8}}
	mark := api.Span{From: -7, To: -7}
	x := mustCompile(t, "ab*")
	y := mustCompile(t, `\(a\)b*\1*`)
	before := x.All(line)
	spoilt := x.All(line)
	spoilt = spoilt[:cap(spoilt)]
	for i := range spoilt {
		spoilt[i] = mark
	}
	checkAll(t, x, "ab*", line, want)
	checkAll(t, y, `\(a\)b*\1*`, line, want)
	Grep("ab*", line, api.Options{Only: true})
	if !slices.Equal(before, want) {
		t.Errorf("a list that was handed out before: %v, want %v", before, want)
	}
	for _, span := range spoilt {
		if span != mark {
			t.Errorf("a list that the caller has written into: %v", spoilt)
			break
		}
	}
}

func TestAllDoesNotHangOnWhatWasAskedBefore(t *testing.T) {
	x := mustCompile(t, `\(b*\)a\1`)
	want := []api.Span{{From: 0, To: 3}, {From: 3, To: 6}}
	for i := 0; i < 3; i++ {
		checkAll(t, x, `\(b*\)a\1`, "babbab", want)
		x.Find("babbab", 2)
		x.All("bbbaa")
	}
}

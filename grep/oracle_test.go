package grep

import (
	"maps"
	"slices"
	"strconv"
	"strings"
	"testing"

	"bre/api"
)

// node: an item, or a row of them, of a pattern that is made up; it is matched here by the document's words, with all ways tried.
type node struct {
	text   string  // as it stands in a pattern
	kind   byte    // 'b' one of bytes, '^', '$', 'r' a row, 'g' a group, '\\' a reference, '*' repeated
	bytes  string  // of 'b'
	parts  []*node // of 'r' and 'g' all, of '*' the one
	number int     // of 'g' and '\\'
	least  int
	most   int // -1: any number
}

// maker: the numbers behind what is made up, from a fixed beginning, so that a failure comes again.
type maker struct {
	seed   uint32
	groups int
	closed []int
	refs   []int
	back   bool // whether references are made up too
}

func (m *maker) pattern() *node {
	m.groups = 0
	m.closed = nil
	m.refs = nil
	return m.row(3)
}

func (m *maker) below(n int) int {
	m.seed = next(m.seed)
	return int(m.seed>>8) % n
}

func (m *maker) row(depth int) *node {
	x := &node{kind: 'r'}
	if m.below(6) == 0 {
		x.parts = append(x.parts, &node{text: "^", kind: '^'})
	}
	for n := m.below(4); n > 0; n-- {
		x.parts = append(x.parts, m.item(depth))
	}
	if m.below(6) == 0 {
		x.parts = append(x.parts, &node{text: "$", kind: '$'})
	}
	for _, part := range x.parts {
		x.text += part.text
	}
	return x
}

func (m *maker) item(depth int) *node {
	x := m.plain(depth)
	for m.below(5) < 2 {
		x = m.repeated(x)
	}
	return x
}

func (m *maker) plain(depth int) *node {
	const all = "abc*"
	choice := m.below(12)
	if choice >= 8 && depth > 0 && m.groups < api.MaxGroups {
		return m.group(depth)
	}
	if choice >= 5 && m.back && len(m.closed) > 0 {
		return m.reference()
	}
	switch choice % 8 {
	case 0, 1:
		return &node{text: "a", kind: 'b', bytes: "a"}
	case 2, 3:
		return &node{text: "b", kind: 'b', bytes: "b"}
	case 4:
		return &node{text: ".", kind: 'b', bytes: all}
	case 5:
		return &node{text: "[^a]", kind: 'b', bytes: "bc*"}
	case 6:
		return &node{text: "[b-c]", kind: 'b', bytes: "bc"}
	}
	return &node{text: `\*`, kind: 'b', bytes: "*"}
}

func (m *maker) group(depth int) *node {
	m.groups++
	number := m.groups
	inner := m.row(depth - 1)
	m.closed = append(m.closed, number)
	return &node{text: `\(` + inner.text + `\)`, kind: 'g', parts: inner.parts, number: number}
}

func (m *maker) reference() *node {
	number := m.closed[m.below(len(m.closed))]
	if !slices.Contains(m.refs, number) {
		if len(m.refs) == api.MaxRefs {
			number = m.refs[m.below(len(m.refs))]
		} else {
			m.refs = append(m.refs, number)
		}
	}
	return &node{text: `\` + strconv.Itoa(number), kind: '\\', number: number}
}

func (m *maker) repeated(part *node) *node {
	x := &node{kind: '*', parts: []*node{part}, least: m.below(4)}
	from := part.text + `\{` + strconv.Itoa(x.least)
	switch m.below(5) {
	case 0:
		x.most = x.least
		x.text = from + `\}`
	case 1:
		x.most = -1
		x.text = from + `,\}`
	case 2:
		x.most = x.least + m.below(3)
		x.text = from + "," + strconv.Itoa(x.most) + `\}`
	default:
		x.least = 0
		x.most = -1
		x.text = part.text + "*"
	}
	return x
}

func (m *maker) line() string {
	var b strings.Builder
	for n := m.below(8); n > 0; n-- {
		b.WriteByte("aabbc*"[m.below(6)])
	}
	return b.String()
}

// spot: where a way has got to, and what the groups that are referred to have matched on it: from and to, and 1, or noughts.
type spot struct {
	at   int
	held [api.MaxRefs][2]int
}

// spots: each stands there once.
type spots map[spot]bool

// oracle: a line, and the groups that are referred to.
type oracle struct {
	line string
	refs []int
}

// ways: where the ways of a node lead from some spots.
func (o *oracle) ways(x *node, from spots) spots {
	to := spots{}
	for s := range from {
		for e := range o.waysFrom(x, s) {
			to[e] = true
		}
	}
	return to
}

func (o *oracle) waysFrom(x *node, s spot) spots {
	to := spots{}
	switch x.kind {
	case 'b':
		if s.at < len(o.line) && strings.IndexByte(x.bytes, o.line[s.at]) >= 0 {
			s.at++
			to[s] = true
		}
	case '^':
		if s.at == 0 {
			to[s] = true
		}
	case '$':
		if s.at == len(o.line) {
			to[s] = true
		}
	case '\\':
		held := s.held[slices.Index(o.refs, x.number)]
		if held[0] > 0 && strings.HasPrefix(o.line[s.at:], o.line[held[0]-1:held[1]-1]) {
			s.at += held[1] - held[0]
			to[s] = true
		}
	case 'r':
		return o.waysOfRow(x, s)
	case 'g':
		slot := slices.Index(o.refs, x.number)
		for e := range o.waysOfRow(x, s) {
			if slot >= 0 {
				e.held[slot] = [2]int{s.at + 1, e.at + 1}
			}
			to[e] = true
		}
	case '*':
		return o.waysOfTimes(x, s)
	}
	return to
}

func (o *oracle) waysOfRow(x *node, s spot) spots {
	at := spots{s: true}
	for _, part := range x.parts {
		at = o.ways(part, at)
	}
	return at
}

func (o *oracle) waysOfTimes(x *node, s spot) spots {
	part := x.parts[0]
	at := spots{s: true}
	for k := 0; k < x.least; k++ {
		at = o.ways(part, at)
	}
	to := maps.Clone(at)
	for k := x.least; k != x.most && len(at) > 0; k++ {
		longer := spots{}
		for s := range at {
			for e := range o.waysFrom(part, s) {
				if e.at > s.at {
					longer[e] = true
					to[e] = true
				}
			}
		}
		at = longer
	}
	return to
}

// longest: for each place of the line, the end of the longest match that begins there; or -1.
func (o *oracle) longest(x *node) []int {
	var ends []int
	for i := 0; i <= len(o.line); i++ {
		end := -1
		for s := range o.waysFrom(x, spot{at: i}) {
			end = max(end, s.at)
		}
		ends = append(ends, end)
	}
	return ends
}

// first: the match to be found from a place on.
func first(ends []int, from int) (int, int) {
	for i := from; i >= 0 && i < len(ends); i++ {
		if ends[i] >= 0 {
			return i, ends[i]
		}
	}
	return -1, 0
}

// spansOf: what All is to give of a line.
func spansOf(ends []int) []api.Span {
	var spans []api.Span
	from := 0
	for {
		i, j := first(ends, from)
		if i < 0 {
			return spans
		}
		if j > i {
			spans = append(spans, api.Span{From: i, To: j})
		}
		from = max(i+1, j)
	}
}

// checkMadeUp compares Find, All and Grep with the oracle, in some lines, and tells how many times something was found.
func checkMadeUp(t *testing.T, m *maker, x *Prog, row *node) int {
	t.Helper()
	found := 0
	var lines []seenLine
	for n := 0; n < 4; n++ {
		o := &oracle{line: m.line(), refs: m.refs}
		ends := o.longest(row)
		i, _ := first(ends, 0)
		lines = append(lines, seenLine{text: o.line, found: i >= 0, spans: spansOf(ends)})
		checkAll(t, x, row.text, o.line, spansOf(ends))
		for from := -1; from <= len(o.line)+1; from++ {
			i, j := first(ends, from)
			checkFind(t, x, row.text, o.line, from, i, j)
			if j > i {
				found++
			}
		}
	}
	checkGrepOfLines(t, row.text, lines, optionsOf(m.below(16)))
	return found
}

func checkAllWays(t *testing.T, m *maker, patterns int) {
	tried := 0
	found := 0
	for tried < patterns {
		row := m.pattern()
		x, errno, at := Compile(row.text)
		if errno == api.ErrLong || errno == api.ErrBig || m.back && len(m.refs) == 0 {
			continue
		}
		if x == nil || errno != api.OK {
			t.Fatalf("Compile(%q): %v, error %d at %d", row.text, x, errno, at)
		}
		tried++
		found += checkMadeUp(t, m, x, row)
	}
	if found < patterns {
		t.Errorf("something was found only %d times, with %d patterns", found, patterns)
	}
}

func TestAgainstAllWays(t *testing.T) {
	checkAllWays(t, &maker{seed: 7}, 10000)
}

func TestReferencesAgainstAllWays(t *testing.T) {
	checkAllWays(t, &maker{seed: 8, back: true}, 3000)
}

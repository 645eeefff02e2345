package grep

import (
	"strconv"
	"strings"
	"testing"

	"bre/api"
)

// node: an item, or a row of them, of a pattern that is made up; it is matched here by the document's words, with all ways tried.
type node struct {
	text  string  // as it stands in a pattern
	kind  byte    // 'b' one of bytes, '^', '$', 'r' a row (a group's, too), '*' repeated
	bytes string  // of 'b'
	parts []*node // of 'r' all, of '*' the one
	least int
	most  int // -1: any number
}

// maker: the numbers behind what is made up, from a fixed beginning, so that a failure comes again.
type maker struct {
	seed   uint32
	groups int
}

func (m *maker) below(n int) int {
	m.seed = next(m.seed)
	return int(m.seed>>8) % n
}

func (m *maker) row(depth int) *node {
	x := &node{kind: 'r'}
	if m.below(6) == 0 {
		x.parts = append(x.parts, &node{text: "^", kind: '^'})
	}
	for n := m.below(4); n > 0; n-- {
		x.parts = append(x.parts, m.item(depth))
	}
	if m.below(6) == 0 {
		x.parts = append(x.parts, &node{text: "$", kind: '$'})
	}
	for _, part := range x.parts {
		x.text += part.text
	}
	return x
}

func (m *maker) item(depth int) *node {
	x := m.plain(depth)
	for m.below(5) < 2 {
		x = m.repeated(x)
	}
	return x
}

func (m *maker) plain(depth int) *node {
	const all = "abc*"
	choice := m.below(12)
	if choice >= 8 && depth > 0 && m.groups < api.MaxGroups {
		m.groups++
		inner := m.row(depth - 1)
		return &node{text: `\(` + inner.text + `\)`, kind: 'r', parts: inner.parts}
	}
	switch choice % 8 {
	case 0, 1:
		return &node{text: "a", kind: 'b', bytes: "a"}
	case 2, 3:
		return &node{text: "b", kind: 'b', bytes: "b"}
	case 4:
		return &node{text: ".", kind: 'b', bytes: all}
	case 5:
		return &node{text: "[^a]", kind: 'b', bytes: "bc*"}
	case 6:
		return &node{text: "[b-c]", kind: 'b', bytes: "bc"}
	}
	return &node{text: `\*`, kind: 'b', bytes: "*"}
}

func (m *maker) repeated(part *node) *node {
	x := &node{kind: '*', parts: []*node{part}, least: m.below(4)}
	from := part.text + `\{` + strconv.Itoa(x.least)
	switch m.below(5) {
	case 0:
		x.most = x.least
		x.text = from + `\}`
	case 1:
		x.most = -1
		x.text = from + `,\}`
	case 2:
		x.most = x.least + m.below(3)
		x.text = from + "," + strconv.Itoa(x.most) + `\}`
	default:
		x.least = 0
		x.most = -1
		x.text = part.text + "*"
	}
	return x
}

func (m *maker) line() string {
	var b strings.Builder
	for n := m.below(8); n > 0; n-- {
		b.WriteByte("aabbc*"[m.below(6)])
	}
	return b.String()
}

// ends: the places to which the ways of a node lead from place i, as bits.
func (x *node) ends(line string, i int) uint32 {
	switch x.kind {
	case 'b':
		if i < len(line) && strings.IndexByte(x.bytes, line[i]) >= 0 {
			return 1 << (i + 1)
		}
		return 0
	case '^':
		if i == 0 {
			return 1
		}
		return 0
	case '$':
		if i == len(line) {
			return 1 << i
		}
		return 0
	case 'r':
		at := uint32(1) << i
		for _, part := range x.parts {
			at = part.endsOfAll(line, at)
		}
		return at
	}
	return x.endsOfTimes(line, i)
}

// endsOfAll: the places to which a node leads from any of some places.
func (x *node) endsOfAll(line string, places uint32) uint32 {
	to := uint32(0)
	for i := 0; i <= len(line); i++ {
		if places&(1<<i) != 0 {
			to |= x.ends(line, i)
		}
	}
	return to
}

func (x *node) endsOfTimes(line string, i int) uint32 {
	part := x.parts[0]
	at := uint32(1) << i
	for k := 0; k < x.least; k++ {
		at = part.endsOfAll(line, at)
	}
	to := at
	// Each time beyond the least number has a byte, so that there are no more of them than the line has bytes.
	for k := x.least; k != x.most && k < x.least+len(line); k++ {
		longer := uint32(0)
		for j := 0; j <= len(line); j++ {
			if at&(1<<j) != 0 {
				longer |= part.ends(line, j) &^ (1 << j)
			}
		}
		at = longer
		to |= at
	}
	return to
}

func (x *node) find(line string, from int) (int, int) {
	for i := from; i >= 0 && i <= len(line); i++ {
		to := x.ends(line, i)
		for j := len(line); j >= i; j-- {
			if to&(1<<j) != 0 {
				return i, j
			}
		}
	}
	return -1, 0
}

func TestFindAgainstAllWays(t *testing.T) {
	m := &maker{seed: 7}
	tried := 0
	for k := 0; k < 20000; k++ {
		m.groups = 0
		row := m.row(3)
		x, errno, at := Compile(row.text)
		if errno == api.ErrLong || errno == api.ErrBig {
			continue
		}
		if x == nil || errno != api.OK {
			t.Fatalf("Compile(%q): %v, error %d at %d", row.text, x, errno, at)
		}
		tried++
		for n := 0; n < 4; n++ {
			line := m.line()
			for from := -1; from <= len(line)+1; from++ {
				i, j := row.find(line, from)
				checkFind(t, x, row.text, line, from, i, j)
			}
		}
	}
	if tried < 10000 {
		t.Errorf("only %d patterns were tried", tried)
	}
}

// Package grep: patterns, and searches with them: see DOC.md.
package grep

import (
	"bre/api"
	"bre/machine"
	"bre/syntax"
)

// Prog: a pattern.
type Prog struct {
	groups int
	code   machine.Code
}

// Compile: the pattern, or what is wrong with it, and where (P2).
func Compile(s string) (*Prog, api.Errno, int) {
	tree, errno, at := syntax.Parse(s)
	if errno != api.OK {
		return nil, errno, at
	}
	return &Prog{groups: tree.Groups, code: machine.Build(tree)}, api.OK, 0
}

// Groups: how many it has (P2).
func (x *Prog) Groups() int {
	// Compile hands out nil beside an error, and no call may panic.
	if x == nil {
		return 0
	}
	return x.groups
}

// Find: the first match from a place on, and of those that begin there the longest (P3, P4).
func (x *Prog) Find(line string, from int) (int, int, bool) {
	if x == nil {
		return 0, 0, false
	}
	return x.code.Find(line, from)
}

// All: the matches that have a byte (P5).
func (x *Prog) All(line string) []api.Span {
	var spans []api.Span
	from := 0
	for from <= len(line) {
		i, j, found := x.Find(line, from)
		if !found {
			return spans
		}
		// Behind a match without a byte the place moves on all the same: so the search ends.
		from = i + 1
		if j > i {
			spans = append(spans, api.Span{From: i, To: j})
			from = j
		}
	}
	return spans
}

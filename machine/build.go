package machine

import "bre/syntax"

// builder: steps that are being laid. A step is laid behind those to which it leads, save in a loop.
type builder struct {
	code  Code
	refs  []int // the groups that are referred to; a slot is a place in this list
	depth int
}

// Build makes the steps of a pattern. What groups match and which times have a byte matters only where there are references: else there are no steps for it.
func Build(tree syntax.Tree) Code {
	b := builder{refs: tree.Refs}
	b.code.slots = len(tree.Refs)
	last := b.put(step{kind: done})
	entry := b.row(tree.Row, last)
	b.code.entry = entry
	return b.code
}

// put lays a step behind the others, and tells its place.
func (b *builder) put(s step) int {
	s.depth = b.depth
	s.first = b.code.levels
	b.code.levels += s.depth + 1
	at := len(b.code.steps)
	b.code.steps = append(b.code.steps, s)
	return at
}

// row lays the steps of a row that goes on at next, the last item first, and tells where the row begins.
func (b *builder) row(items []syntax.Item, next int) int {
	entry := next
	for i := len(items) - 1; i >= 0; i-- {
		entry = b.item(&items[i], entry)
	}
	return entry
}

func (b *builder) item(x *syntax.Item, next int) int {
	switch x.Kind {
	case syntax.One:
		return b.put(step{kind: one, set: x.Set, next: next})
	case syntax.Begin:
		return b.put(step{kind: begin, next: next})
	case syntax.End:
		return b.put(step{kind: end, next: next})
	case syntax.Back:
		slot := b.slot(x.Number)
		return b.put(step{kind: back, slot: slot, next: next})
	case syntax.Group:
		return b.group(x, next)
	case syntax.Repeat:
		return b.repeat(x, next)
	}
	return next
}

// slot: -1, if nothing refers to the group.
func (b *builder) slot(number int) int {
	for i, n := range b.refs {
		if n == number {
			return i
		}
	}
	return -1
}

func (b *builder) group(x *syntax.Item, next int) int {
	slot := b.slot(x.Number)
	if slot < 0 {
		return b.row(x.Row, next)
	}
	last := b.put(step{kind: shut, slot: slot, next: next})
	entry := b.row(x.Row, last)
	return b.put(step{kind: open, slot: slot, next: entry})
}

func (b *builder) repeat(x *syntax.Item, next int) int {
	// A star of a star is the inner star alone: each time has a byte, in both. A long row of stars would make a great many levels.
	if isStar(x) && len(x.Row) == 1 && isStar(&x.Row[0]) {
		return b.repeat(&x.Row[0], next)
	}
	entry := next
	if x.Most == syntax.NoMost {
		entry = b.loop(x, next)
	}
	for k := x.Least; k < x.Most; k++ {
		again := b.beyond(x, entry)
		entry = b.put(step{kind: fork, next: again, other: next})
	}
	for k := 0; k < x.Least; k++ {
		entry = b.row(x.Row, entry)
	}
	return entry
}

func isStar(x *syntax.Item) bool {
	return x.Kind == syntax.Repeat && x.Least == 0 && x.Most == syntax.NoMost
}

// loop: the item any number of times, all of them beyond the least number.
func (b *builder) loop(x *syntax.Item, next int) int {
	entry := b.put(step{kind: fork, other: next})
	again := b.beyond(x, entry)
	b.code.steps[entry].next = again
	return entry
}

// beyond lays one time beyond the least number. It must have a byte; but where nothing refers to groups, a time without one can be left out, and there are no other matches by it.
func (b *builder) beyond(x *syntax.Item, next int) int {
	if b.code.slots == 0 || hasByte(x.Row) {
		return b.row(x.Row, next)
	}
	b.depth++
	last := b.put(step{kind: gain, next: next})
	entry := b.row(x.Row, last)
	b.depth--
	return entry
}

// hasByte tells whether a row has a byte whatever it matches. (A group may have matched no byte, and so may a reference to it.)
func hasByte(items []syntax.Item) bool {
	for i := range items {
		x := &items[i]
		if x.Kind == syntax.One || x.Kind == syntax.Group && hasByte(x.Row) {
			return true
		}
		if x.Kind == syntax.Repeat && x.Least > 0 && hasByte(x.Row) {
			return true
		}
	}
	return false
}

// Package machine finds patterns in lines: it makes steps of a pattern's tree, and goes through a line with them.
package machine

import "bre/syntax"

type kind int

const (
	done  kind = iota // the pattern has matched
	one               // one byte of set, then next
	begin             // only at the line's beginning, then next
	end               // only at the line's end, then next
	fork              // next and other, both
)

// step: the fields that its kind does not name are zero.
type step struct {
	kind  kind
	set   syntax.Set
	next  int
	other int
}

// Code: a pattern as steps; next, other and entry are their places in the list. Items that are repeated stand there as often as they may match; the bound on a pattern's size bounds the steps too.
type Code struct {
	steps []step
	entry int
}

// Build makes the steps of a pattern without references back.
func Build(row []syntax.Item) Code {
	c := Code{}
	last := c.put(step{kind: done})
	entry := c.row(row, last)
	c.entry = entry
	return c
}

// put lays a step behind the others, and tells its place.
func (c *Code) put(s step) int {
	at := len(c.steps)
	c.steps = append(c.steps, s)
	return at
}

// row lays the steps of a row that goes on at next, the last item first, and tells where the row begins.
func (c *Code) row(items []syntax.Item, next int) int {
	entry := next
	for i := len(items) - 1; i >= 0; i-- {
		entry = c.item(&items[i], entry)
	}
	return entry
}

func (c *Code) item(x *syntax.Item, next int) int {
	switch x.Kind {
	case syntax.One:
		return c.put(step{kind: one, set: x.Set, next: next})
	case syntax.Begin:
		return c.put(step{kind: begin, next: next})
	case syntax.End:
		return c.put(step{kind: end, next: next})
	case syntax.Group:
		return c.row(x.Row, next)
	case syntax.Repeat:
		return c.repeat(x, next)
	}
	return next
}

// repeat lets the times beyond the least number match no byte too: where nothing refers to groups, such a time can be left out, and there are no other matches by it.
func (c *Code) repeat(x *syntax.Item, next int) int {
	entry := next
	if x.Most == syntax.NoMost {
		entry = c.loop(x, next)
	}
	for k := x.Least; k < x.Most; k++ {
		again := c.row(x.Row, entry)
		entry = c.put(step{kind: fork, next: again, other: next})
	}
	for k := 0; k < x.Least; k++ {
		entry = c.row(x.Row, entry)
	}
	return entry
}

// loop: the item any number of times.
func (c *Code) loop(x *syntax.Item, next int) int {
	entry := c.put(step{kind: fork, other: next})
	again := c.row(x.Row, entry)
	c.steps[entry].next = again
	return entry
}

// Package machine finds patterns in lines: it makes steps of a pattern's tree, and goes through a line with them.
package machine

import "bre/syntax"

type kind int

const (
	done  kind = iota // the pattern has matched
	one               // one byte of set, then next
	begin             // only at the line's beginning, then next
	end               // only at the line's end, then next
	fork              // next and other, both
	open              // the group of slot begins, then next
	shut              // the group of slot ends, then next
	back              // what the group of slot has matched, then next
	gain              // the innermost time around it ends, if it has had a byte; then next
)

// step: the fields that its kind does not name are zero, but for depth and first.
type step struct {
	kind  kind
	set   syntax.Set
	slot  int // groups that are referred to have slots, from 0 on
	next  int
	other int
	depth int // how many times stand around it that must have a byte
	first int // its level 0, among the levels of all steps
}

// Code: a pattern as steps; next, other and entry are their places in the list. Items that are repeated stand there as often as they may match; the bound on a pattern's size bounds the steps too.
//
// A way that is at a step has a level: how many of the times around the step have had a byte. A time that has begun sooner has had every byte that an inner one has had; so the number tells which ones they are. It is 0 to the step's depth.
type Code struct {
	steps  []step
	entry  int
	slots  int
	levels int // of all steps
}

// Package syntax reads patterns: it makes a tree of a pattern's bytes, or tells what is wrong with them, and where.
package syntax

// Kind: what an item is.
type Kind int

const (
	One    Kind = iota // one byte of Set
	Begin              // the anchor of the line's beginning
	End                // the anchor of the line's end
	Back               // a reference back to group Number
	Group              // group Number, around Row
	Repeat             // the one item of Row, Least to Most times
)

// NoMost stands in Most where nothing bounds how often an item is repeated.
const NoMost = -1

// Item: a part of a pattern. The fields that its kind does not name are zero.
type Item struct {
	Kind   Kind
	Set    Set
	Number int
	Least  int
	Most   int
	Row    []Item
}

// Tree: a pattern: its row of items, how many groups there are in it, and the numbers of those that are referred to, in the order of their first references.
type Tree struct {
	Row    []Item
	Groups int
	Refs   []int
}

// Set: a set of bytes.
type Set struct {
	words [8]uint32
}

// Has tells whether a byte is in the set.
func (s *Set) Has(c byte) bool {
	return s.words[c/32]&(uint32(1)<<(c%32)) != 0
}

func (s *Set) add(c byte) {
	s.words[c/32] |= uint32(1) << (c % 32)
}

func (s *Set) addRange(first, last byte) {
	// The counter is an int: a byte would never get beyond a last one of 255.
	for c := int(first); c <= int(last); c++ {
		s.add(byte(c))
	}
}

func (s *Set) invert() {
	for i := range s.words {
		s.words[i] = ^s.words[i]
	}
}

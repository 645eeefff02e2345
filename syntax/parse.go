package syntax

import "bre/api"

// row: the items of the pattern, or of a group that is open, as far as they are read.
type row struct {
	number int // its group's; 0 is the pattern itself
	start  int // the place of its `\(`
	items  []Item
}

// reader: a pattern that is being read. A step that fails leaves at on the place of the fault.
type reader struct {
	s      string
	at     int
	inner  row   // the row that gets the next item
	outer  []row // the rows around it, the innermost last
	groups int
	closed [api.MaxGroups + 1]bool
	refs   []int // the groups that are referred to
}

// Parse makes the tree of a pattern; or it tells the pattern's first error, and its place.
func Parse(s string) (Tree, api.Errno, int) {
	if len(s) > api.MaxPattern {
		return Tree{}, api.ErrLong, 0
	}
	for i := 0; i < len(s); i++ {
		if s[i] == '\n' {
			return Tree{}, api.ErrByte, i
		}
	}
	r := reader{s: s}
	for r.at < len(s) {
		c := s[r.at]
		errno := r.step(c)
		if errno != api.OK {
			return Tree{}, errno, r.at
		}
	}
	if len(r.outer) > 0 {
		return Tree{}, api.ErrOpen, r.inner.start
	}
	if rowSize(r.inner.items) > api.MaxSize {
		return Tree{}, api.ErrBig, 0
	}
	return Tree{Row: r.inner.items, Groups: r.groups, Refs: r.refs}, api.OK, 0
}

// step reads the next item, or what repeats the one ahead, or one end of a group: what begins with c.
func (r *reader) step(c byte) api.Errno {
	switch {
	case c == '\\':
		return r.escape()
	case c == '[':
		return r.bracket()
	case c == '.':
		r.put(anyByte(), 1)
	case c == '^' && len(r.inner.items) == 0:
		r.put(Item{Kind: Begin}, 1)
	case c == '$' && r.endsRow(r.at+1):
		r.put(Item{Kind: End}, 1)
	case c == '*' && r.canRepeat():
		r.repeat(0, NoMost)
		r.at++
	default:
		r.put(oneByte(c), 1)
	}
	return api.OK
}

// put lays an item, read from width bytes, behind those of the row.
func (r *reader) put(x Item, width int) {
	r.inner.items = append(r.inner.items, x)
	r.at += width
}

func (r *reader) endsRow(at int) bool {
	return at >= len(r.s) || hasAt(r.s, at, `\)`)
}

// canRepeat tells whether there is an item ahead, in this row, that is no anchor.
func (r *reader) canRepeat() bool {
	n := len(r.inner.items)
	if n == 0 {
		return false
	}
	kind := r.inner.items[n-1].Kind
	return kind != Begin && kind != End
}

// repeat puts the item ahead, with how often it stands, in the place of that item.
func (r *reader) repeat(least, most int) {
	n := len(r.inner.items)
	if n == 0 {
		return
	}
	repeated := []Item{r.inner.items[n-1]}
	r.inner.items[n-1] = Item{Kind: Repeat, Least: least, Most: most, Row: repeated}
}

func (r *reader) bracket() api.Errno {
	set, at, errno := readBracket(r.s, r.at)
	r.at = at
	if errno == api.OK {
		r.put(Item{Kind: One, Set: set}, 0)
	}
	return errno
}

func oneByte(c byte) Item {
	x := Item{Kind: One}
	x.Set.add(c)
	return x
}

func anyByte() Item {
	x := Item{Kind: One}
	x.Set.addRange(0, 255)
	return x
}

// hasAt tells whether part stands in s at a place.
func hasAt(s string, at int, part string) bool {
	return at >= 0 && at <= len(s) && len(part) <= len(s)-at && s[at:at+len(part)] == part
}

package syntax

import "bre/api"

// escape reads what begins with a backslash. All its errors are at the backslash.
func (r *reader) escape() api.Errno {
	if r.at+1 >= len(r.s) {
		return api.ErrEscape
	}
	c := r.s[r.at+1]
	switch c {
	case '(':
		return r.openGroup()
	case ')':
		return r.closeGroup()
	case '{':
		return r.interval()
	case '1', '2', '3', '4', '5', '6', '7', '8', '9':
		return r.reference(int(c - '0'))
	case '.', '[', ']', '*', '^', '$', '\\':
		r.put(oneByte(c), 2)
		return api.OK
	}
	return api.ErrEscape
}

func (r *reader) openGroup() api.Errno {
	if r.groups >= api.MaxGroups {
		return api.ErrGroup
	}
	r.groups++
	r.outer = append(r.outer, r.inner)
	r.inner = row{number: r.groups, start: r.at}
	r.at += 2
	return api.OK
}

func (r *reader) closeGroup() api.Errno {
	depth := len(r.outer)
	if depth == 0 {
		return api.ErrClose
	}
	group := r.inner
	r.inner = r.outer[depth-1]
	r.outer = r.outer[:depth-1]
	r.closed[group.number] = true
	r.put(Item{Kind: Group, Number: group.number, Row: group.items}, 2)
	return api.OK
}

func (r *reader) reference(number int) api.Errno {
	if number > r.groups || !r.closed[number] {
		return api.ErrBack
	}
	if !r.refersTo(number) {
		if len(r.refs) >= api.MaxRefs {
			return api.ErrBack
		}
		r.refs = append(r.refs, number)
	}
	r.put(Item{Kind: Back, Number: number}, 2)
	return api.OK
}

// refersTo tells whether there was a reference to a group already.
func (r *reader) refersTo(number int) bool {
	for _, n := range r.refs {
		if n == number {
			return true
		}
	}
	return false
}

func (r *reader) interval() api.Errno {
	if !r.canRepeat() {
		return api.ErrCount
	}
	least, most, behind, ok := readInterval(r.s, r.at+2)
	if !ok {
		return api.ErrCount
	}
	r.repeat(least, most)
	r.at = behind
	return api.OK
}

// readInterval reads an interval from behind its `\{` on: its two numbers, and the place behind its `\}`.
func readInterval(s string, at int) (int, int, int, bool) {
	least, at, ok := readNumber(s, at)
	if !ok {
		return 0, 0, 0, false
	}
	most := least
	if hasAt(s, at, `,\}`) {
		most = NoMost
		at++
	} else if hasAt(s, at, `,`) {
		most, at, ok = readNumber(s, at+1)
		if !ok || most < least {
			return 0, 0, 0, false
		}
	}
	if !hasAt(s, at, `\}`) {
		return 0, 0, 0, false
	}
	return least, most, at + 2, true
}

// readNumber reads a number of at most MaxCount, of one digit at least; and the place behind it.
func readNumber(s string, at int) (int, int, bool) {
	n := 0
	start := at
	for at < len(s) && s[at] >= '0' && s[at] <= '9' {
		n = n*10 + int(s[at]-'0')
		// Given up at once, so that no number gets too great for an int.
		if n > api.MaxCount {
			return 0, 0, false
		}
		at++
	}
	if at == start {
		return 0, 0, false
	}
	return n, at, true
}

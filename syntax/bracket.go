package syntax

import "bre/api"

// classNames: there are no other classes than these.
var classNames = [6]string{"[:alpha:]", "[:digit:]", "[:alnum:]", "[:upper:]", "[:lower:]", "[:space:]"}

// members: a bracket whose members are being read. A step that fails leaves at on the place of the fault.
type members struct {
	s           string
	at          int
	set         Set
	behindClass bool // the member ahead was a class
}

// readBracket reads the bracket whose `[` is at start: its set, and the place behind it; or its error, and the place of that.
func readBracket(s string, start int) (Set, int, api.Errno) {
	m := members{s: s, at: start + 1}
	negated := hasAt(s, m.at, "^")
	if negated {
		m.at++
	}
	first := m.at
	for m.at < len(s) {
		c := s[m.at]
		if c == ']' && m.at > first {
			if negated {
				m.set.invert()
			}
			return m.set, m.at + 1, api.OK
		}
		errno := m.step(c)
		if errno != api.OK {
			return Set{}, m.at, errno
		}
	}
	return Set{}, start, api.ErrBracket
}

// step reads the next member, whose first byte is c.
func (m *members) step(c byte) api.Errno {
	if beginsClass(m.s, m.at) {
		return m.class()
	}
	if m.behindClass && c == '-' && !m.endsAt(m.at+1) {
		return api.ErrRange
	}
	m.behindClass = false
	if hasAt(m.s, m.at+1, "-") && !m.endsAt(m.at+2) {
		return m.byteRange(c)
	}
	m.set.add(c)
	m.at++
	return api.OK
}

// endsAt tells whether the pattern ends at a place, or a `]` stands there: what is ahead of it begins no range.
func (m *members) endsAt(at int) bool {
	return at >= len(m.s) || m.s[at] == ']'
}

// byteRange reads a range from its first byte, c, on.
func (m *members) byteRange(c byte) api.Errno {
	if m.at+2 >= len(m.s) || m.s[m.at+2] < c || beginsClass(m.s, m.at+2) {
		return api.ErrRange
	}
	m.set.addRange(c, m.s[m.at+2])
	m.at += 3
	return api.OK
}

func (m *members) class() api.Errno {
	for _, name := range classNames {
		if hasAt(m.s, m.at, name) {
			m.set.addClass(name)
			m.at += len(name)
			m.behindClass = true
			return api.OK
		}
	}
	return api.ErrClass
}

func beginsClass(s string, at int) bool {
	if at+1 >= len(s) || s[at] != '[' {
		return false
	}
	c := s[at+1]
	return c == ':' || c == '.' || c == '='
}

func (s *Set) addClass(name string) {
	switch name {
	case "[:alpha:]":
		s.addRange('a', 'z')
		s.addRange('A', 'Z')
	case "[:digit:]":
		s.addRange('0', '9')
	case "[:alnum:]":
		s.addRange('a', 'z')
		s.addRange('A', 'Z')
		s.addRange('0', '9')
	case "[:upper:]":
		s.addRange('A', 'Z')
	case "[:lower:]":
		s.addRange('a', 'z')
	case "[:space:]":
		s.addRange(9, 13)
		s.add(' ')
	}
}

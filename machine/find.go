package machine

// way: a way that began at place start of the line, and waits at a step for a byte.
type way struct {
	step  int
	start int
}

// ways: those that are at one place of the line, in the order in which they began.
type ways struct {
	list  []way
	count int
}

// search: a line that is being gone through. All ways go side by side, wherever they began, so that the time grows with the line and not with its square.
type search struct {
	code  *Code
	line  string
	at    int
	seen  []int // for each step: the place where a way got to it last, and 1; or 0
	found bool
	from  int
	to    int
}

// Find tells the match that begins first, at from or behind it, and of those that begin there the longest.
func (c *Code) Find(line string, from int) (int, int, bool) {
	if c.slots > 0 {
		return c.findBack(line, from)
	}
	size := len(c.steps)
	if from < 0 || from > len(line) || size == 0 {
		return 0, 0, false
	}
	s := search{code: c, line: line, at: from, seen: make([]int, size)}
	now := &ways{list: make([]way, size)}
	later := &ways{list: make([]way, size)}
	s.enter(c.entry, from, now)
	for s.at < len(line) && (now.count > 0 || !s.found) {
		s.pass(line[s.at], now, later)
		now, later = later, now
	}
	return s.from, s.to, s.found
}

// pass takes the ways beyond one byte, and begins a new one behind it while there is no match: a match that begins later is none to be told.
func (s *search) pass(c byte, now, later *ways) {
	s.at++
	later.count = 0
	for i := 0; i < now.count; i++ {
		w := now.list[i]
		if s.found && w.start > s.from {
			return
		}
		x := &s.code.steps[w.step]
		if x.set.Has(c) {
			s.enter(x.next, w.start, later)
		}
	}
	if !s.found {
		s.enter(s.code.entry, s.at, later)
	}
}

// enter follows a way from a step on, as far as it goes without a byte. Where one got to the same step at this place already, it ends: what lies ahead is the same for both, and the one that came first did not begin later.
func (s *search) enter(step, start int, into *ways) {
	for s.seen[step] <= s.at {
		s.seen[step] = s.at + 1
		x := &s.code.steps[step]
		switch x.kind {
		case done:
			s.found = true
			s.from = start
			s.to = s.at
			return
		case one:
			into.put(way{step: step, start: start})
			return
		case begin:
			if s.at > 0 {
				return
			}
		case end:
			if s.at < len(s.line) {
				return
			}
		case fork:
			s.enter(x.other, start, into)
		}
		step = x.next
	}
}

// put has room for every way, as no two wait at one step; the test is there lest that ever be wrong.
func (l *ways) put(w way) {
	if l.count < len(l.list) {
		l.list[l.count] = w
		l.count++
	}
}

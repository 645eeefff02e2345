package machine

import "bre/api"

// What a group holds, as a number: 0, if it has matched nothing yet; or the place where it was opened; or the part of the line that it has matched. While it is open nothing can refer to it: what it had matched before need not be kept.
const (
	opened  = 1                   // and the place
	matched = opened + mostPlaces // and the part's number
)

// setting: what the groups that are referred to hold, and how far the ways have got with that.
type setting struct {
	held    [api.MaxRefs]int // by slots
	reached []places         // for each level of each step: where ways have got to it
	top     int              // from the steps behind this one all ways were followed
	waits   bool             // for its turn to be followed
}

// backSearch: a line that is being gone through with references. What lies ahead of a way hangs on its setting, step, level and place alone: where two ways come together, one of them goes on.
type backSearch struct {
	code    *Code
	line    string
	parts   parts
	fits    []places // for each step: where a byte of its set stands
	kinds   int      // how many things a group may hold
	met     []*setting
	waiting []*setting
	found   bool
	to      int
}

// findBack is Find, of a pattern with references.
func (c *Code) findBack(line string, from int) (int, int, bool) {
	if from < 0 || from > len(line) || len(line) > api.MaxBackLine {
		return 0, 0, false
	}
	s := newBackSearch(c, line)
	first := s.settingOf([api.MaxRefs]int{})
	for i := from; i <= len(line); i++ {
		// What was reached from the beginnings ahead of this one stays so: it leads to no match.
		s.reach(first, c.entry, 0, only(i))
		s.followAll()
		if s.found {
			return i, s.to, true
		}
	}
	return 0, 0, false
}

func newBackSearch(c *Code, line string) *backSearch {
	s := &backSearch{code: c, line: line, parts: partsOf(line)}
	s.fits = make([]places, len(c.steps))
	for i := range c.steps {
		x := &c.steps[i]
		for k := 0; k < len(line); k++ {
			if x.set.Has(line[k]) {
				s.fits[i] |= only(k)
			}
		}
	}
	s.kinds = matched + len(s.parts.list)
	room := 1
	for k := 0; k < c.slots; k++ {
		room *= s.kinds
	}
	s.met = make([]*setting, room)
	return s
}

// settingOf: the setting in which the groups hold this; it is made when it is met first.
func (s *backSearch) settingOf(held [api.MaxRefs]int) *setting {
	place := 0
	for slot := 0; slot < s.code.slots; slot++ {
		place = place*s.kinds + held[slot]
	}
	x := s.met[place]
	if x == nil {
		x = &setting{held: held, reached: make([]places, s.code.levels)}
		s.met[place] = x
	}
	return x
}

// reach notes that ways have got to a level of a step, at some places. Nothing is to be followed if they all were there before: so every search ends.
func (s *backSearch) reach(x *setting, step, level int, where places) {
	i := s.code.steps[step].first + level
	if where&^x.reached[i] == 0 {
		return
	}
	x.reached[i] |= where
	if x.top < step {
		x.top = step
	}
	if !x.waits {
		x.waits = true
		s.waiting = append(s.waiting, x)
	}
}

// followAll follows the ways till they have all come to an end. Settings have their turn in the order in which they were reached, so that much has come together in one when it is followed.
func (s *backSearch) followAll() {
	for i := 0; i < len(s.waiting); i++ {
		x := s.waiting[i]
		s.followSetting(x)
	}
	s.waiting = nil
}

// followSetting goes from the last step to the first, as steps stand behind those to which they lead: a step is followed when all that leads to it was. Only loops lead back up. Places that were followed before are followed again along with new ones; to keep them apart would cost more than that.
func (s *backSearch) followSetting(x *setting) {
	for x.top >= 0 {
		step := x.top
		x.top--
		s.followStep(x, step)
	}
	x.waits = false
}

func (s *backSearch) followStep(x *setting, step int) {
	c := &s.code.steps[step]
	for level := 0; level <= c.depth; level++ {
		i := c.first + level
		where := x.reached[i]
		if where != 0 {
			s.follow(x, step, level, where)
		}
	}
}

// follow takes the ways that are at a step beyond it. A byte raises their level to the greatest, as all times around them have it.
func (s *backSearch) follow(x *setting, step, level int, where places) {
	c := &s.code.steps[step]
	switch c.kind {
	case done:
		s.match(where)
	case one:
		s.reach(x, c.next, c.depth, (where&s.fits[step])<<1)
	case begin:
		s.reach(x, c.next, level, where&only(0))
	case end:
		s.reach(x, c.next, level, where&only(len(s.line)))
	case fork:
		s.reach(x, c.next, level, where)
		s.reach(x, c.other, level, where)
	case open, shut:
		s.followGroup(x, c, level, where)
	case back:
		s.followBack(x, c, level, where)
	case gain:
		if level == c.depth {
			s.reach(x, c.next, level-1, where)
		}
	}
}

// match: the pattern has matched up to some places.
func (s *backSearch) match(where places) {
	for place := 0; place <= len(s.line); place++ {
		if where.has(place) && (!s.found || place > s.to) {
			s.found = true
			s.to = place
		}
	}
}

// followGroup: each place makes a setting of its own.
func (s *backSearch) followGroup(x *setting, c *step, level int, where places) {
	for place := 0; place <= len(s.line); place++ {
		if !where.has(place) {
			continue
		}
		held := x.held
		if c.kind == open {
			held[c.slot] = opened + place
		} else {
			start := x.held[c.slot] - opened
			held[c.slot] = matched + s.parts.number[start][place]
		}
		y := s.settingOf(held)
		s.reach(y, c.next, level, only(place))
	}
}

func (s *backSearch) followBack(x *setting, c *step, level int, where places) {
	number := x.held[c.slot] - matched
	if number < 0 {
		return
	}
	p := &s.parts.list[number]
	if p.size > 0 {
		level = c.depth
	}
	s.reach(x, c.next, level, (where&p.at)<<p.size)
}

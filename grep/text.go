package grep

import (
	"strconv"

	"bre/api"
)

// What a search tells of itself.
const (
	someChosen = 0
	noneChosen = 1
	notDone    = 2 // the pattern is none, or the text is too long
)

// search: a text that is being gone through, and what it has come to so far.
type search struct {
	prog    *Prog
	options api.Options
	number  int // of the line, from 1 on
	chosen  int // how many lines were
	out     []byte
}

// Grep: a text, line by line: the output, and the status (P6).
func Grep(pattern string, text string, o api.Options) (string, int) {
	if len(text) > api.MaxText {
		return "", notDone
	}
	prog, errno, _ := Compile(pattern)
	if errno != api.OK {
		return "", notDone
	}
	s := search{prog: prog, options: o}
	s.lines(text)
	status := noneChosen
	if s.chosen > 0 {
		status = someChosen
	}
	if o.Count {
		return strconv.Itoa(s.chosen) + "\n", status
	}
	return string(s.out), status
}

// lines cuts the text. A line feed ends a line: behind the last one there is none, if there are no bytes.
func (s *search) lines(text string) {
	start := 0
	for i := 0; i < len(text); i++ {
		if text[i] == '\n' {
			s.line(text[start:i])
			start = i + 1
		}
	}
	if start < len(text) {
		s.line(text[start:])
	}
}

func (s *search) line(line string) {
	s.number++
	_, _, found := s.prog.Find(line, 0)
	if found == s.options.Invert {
		return
	}
	s.chosen++
	if s.options.Count {
		return
	}
	if s.options.Only {
		s.putMatches(line)
	} else {
		s.put(line)
	}
}

func (s *search) putMatches(line string) {
	// Such a line was chosen because it has no match: there is no need to look again.
	if s.options.Invert {
		return
	}
	spans := s.prog.All(line)
	for _, span := range spans {
		s.put(line[span.From:span.To])
	}
}

// put lays a line behind the output.
func (s *search) put(line string) {
	if s.options.Number {
		number := strconv.Itoa(s.number)
		s.out = append(s.out, number...)
		s.out = append(s.out, ':')
	}
	s.out = append(s.out, line...)
	s.out = append(s.out, '\n')
}

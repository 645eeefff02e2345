package machine

import "bre/api"

// places: some places of a line of at most MaxBackLine bytes, as bits.
type places uint32

// Every place of such a line: one ahead of each byte, and one behind the last.
const mostPlaces = api.MaxBackLine + 1

// only: one place alone.
func only(place int) places {
	return places(1) << place
}

// has tells whether a place is among some.
func (p places) has(place int) bool {
	return p&only(place) != 0
}

// part: bytes that stand somewhere in a line. Wherever they stand, they are one part: a reference asks for the bytes alone.
type part struct {
	size int
	at   places // where it begins
}

// parts: all parts of a line.
type parts struct {
	list   []part
	number [mostPlaces][mostPlaces]int // by the part's beginning and its end: its place in the list
}

// partsOf: the line has at most MaxBackLine bytes.
func partsOf(line string) parts {
	p := parts{}
	for start := 0; start <= len(line); start++ {
		where := only(len(line)+1) - 1
		p.add(start, 0, where)
		for end := start; end < len(line); end++ {
			size := end - start
			same := placesOf(line, line[end])
			where &= same >> size
			p.add(start, size+1, where)
		}
	}
	return p
}

// placesOf: where a byte stands.
func placesOf(line string, c byte) places {
	where := places(0)
	for i := 0; i < len(line); i++ {
		if line[i] == c {
			where |= only(i)
		}
	}
	return where
}

func (p *parts) add(start, size int, where places) {
	for i := 0; i < start; i++ {
		if where.has(i) {
			p.number[start][start+size] = p.number[i][i+size]
			return
		}
	}
	p.number[start][start+size] = len(p.list)
	p.list = append(p.list, part{size: size, at: where})
}

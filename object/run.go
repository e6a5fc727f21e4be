package object

import (
	"inkhorn/api"
	"inkhorn/word"
)

// row is a number of things, each of a class. Those of class 0 part the others: blanks are so in a line, empty lines in a text.
type row struct {
	n     int
	class func(i int) int
}

// word tells the run that has p.
func (a ask) word(big bool) (api.Region, bool) {
	line := a.l[a.p.Line]
	if len(line) == 0 {
		return api.Region{}, false
	}
	runes := row{len(line), func(i int) int { return word.Class(line[i], big) }}
	s, ok := runes.object(a.p.Col, a.around)
	return api.Region{From: a.inLine(s.From), To: a.inLine(s.To - 1), Kind: api.KindChar}, ok
}

// inLine tells a place in p's line, by its column.
func (a ask) inLine(col int) api.Pos {
	return api.Pos{Line: a.p.Line, Col: col}
}

// block tells the block that has p's line.
func (a ask) block() (api.Region, bool) {
	lines := row{len(a.l), func(i int) int { return min(len(a.l[i]), 1) }}
	s, ok := lines.object(a.p.Line, a.around)
	return api.Region{From: api.Pos{Line: s.From}, To: api.Pos{Line: s.To - 1}, Kind: api.KindLine}, ok
}

// object tells the run that has i, and around it what parts it from others; around what parts, the run behind it: false, if there is none.
func (r row) object(i int, around bool) (api.Span, bool) {
	s := r.run(i)
	switch {
	case !around:
	case r.class(i) == 0:
		if s.To == r.n {
			return api.Span{}, false
		}
		s.To = r.run(s.To).To
	case r.parts(s.To):
		s.To = r.run(s.To).To
	case r.parts(s.From - 1):
		s.From = r.run(s.From - 1).From
	}
	return s, true
}

// run tells the longest piece of one class that has i.
func (r row) run(i int) api.Span {
	s, class := api.Span{From: i, To: i + 1}, r.class(i)
	for s.From > 0 && r.class(s.From-1) == class {
		s.From--
	}
	for s.To < r.n && r.class(s.To) == class {
		s.To++
	}
	return s
}

// parts tells whether there is something at i, and it parts what is beside it.
func (r row) parts(i int) bool {
	return i >= 0 && i < r.n && r.class(i) == 0
}

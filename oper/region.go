package oper

import (
	"inkhorn/api"
	"inkhorn/word"
)

// area is a region that is there.
type area struct {
	kind                int
	first, last         api.Pos
	leftmost, rightmost int // its columns, where it is a block
}

// find tells which region of the lines it is, or why it is none.
func find(l [][]rune, r api.Region) (area, api.Errno) {
	if !isKind(r.Kind) {
		return area{}, api.ErrArg
	}
	if len(l) == 0 || word.Clip(l, r.From) != r.From || word.Clip(l, r.To) != r.To {
		return area{}, api.ErrRange
	}
	a := area{kind: r.Kind, first: r.From, last: r.To}
	if isAhead(a.last, a.first) {
		a.first, a.last = a.last, a.first
	}
	a.leftmost, a.rightmost = min(r.From.Col, r.To.Col), max(r.From.Col, r.To.Col)
	return a, api.OK
}

// isKind tells whether a region and what a register holds may be of a kind.
func isKind(kind int) bool {
	switch kind {
	case api.KindChar, api.KindLine, api.KindBlock:
		return true
	}
	return false
}

// isAhead tells whether a place is ahead of another one.
func isAhead(p, q api.Pos) bool {
	return p.Line < q.Line || p.Line == q.Line && p.Col < q.Col
}

// through goes through the lines of a region and gathers what is told of each, and of where what the region has of it begins and ends.
func through[T any](l [][]rune, a area, tell func(line []rune, from, to int) T) []T {
	told := make([]T, 0, a.last.Line+1-a.first.Line)
	for i := a.first.Line; i <= a.last.Line; i++ {
		from, to := a.of(l[i], i)
		told = append(told, tell(l[i], from, to))
	}
	return told
}

// of tells from where on, and up to where, the region has the runes of a line.
func (a area) of(line []rune, at int) (int, int) {
	from, to := 0, len(line)
	switch a.kind {
	case api.KindChar:
		if at == a.first.Line {
			from = a.first.Col
		}
		if at == a.last.Line { // in an empty line it has no rune at its last place
			to = min(to, a.last.Col+1)
		}
	case api.KindBlock:
		from, to = min(to, a.leftmost), min(to, a.rightmost+1)
	}
	return from, to
}

// behind tells the place that is left where the region was.
func (a area) behind(cut [][]rune) api.Pos {
	switch a.kind {
	case api.KindLine:
		return firstRune(cut, min(a.first.Line, len(cut)-1))
	case api.KindBlock:
		return word.Clip(cut, api.Pos{Line: a.first.Line, Col: a.leftmost})
	}
	return word.Clip(cut, a.first)
}

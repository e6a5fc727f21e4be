package motion

import (
	"inkhorn/api"
	"inkhorn/word"
)

// here tells the line at which it is asked.
func (a ask) here() []rune {
	return a.l[a.p.Line]
}

// inLine tells a place in that line, by its column.
func (a ask) inLine(col int) api.Pos {
	return api.Pos{Line: a.p.Line, Col: col}
}

// down tells the line that is n lines down; line 0 and false, if there is none. (It takes from the lines there are: n may be as large as an int.)
func (a ask) down(n int) (int, bool) {
	if n >= len(a.l)-a.p.Line {
		return 0, false
	}
	return a.p.Line + n, true
}

// up tells the line that is n lines up; line 0 and false, if there is none.
func (a ask) up(n int) (int, bool) {
	if n > a.p.Line {
		return 0, false
	}
	return a.p.Line - n, true
}

// wanted tells a line's place at the column that is wanted.
func (a ask) wanted(line int, ok bool) (api.Pos, bool) {
	col := a.m.Want
	if col < 0 {
		col = a.p.Col
	}
	return word.Clip(a.l, api.Pos{Line: line, Col: col}), ok
}

// firstOf tells the place of a line's first rune that is not blank; of its last one, if there is none.
func (a ask) firstOf(line int, ok bool) (api.Pos, bool) {
	p := api.Pos{Line: line}
	for p.Col < len(a.l[line])-1 && word.Class(a.l[line][p.Col], true) == 0 {
		p.Col++
	}
	return p, ok
}

func (a ask) lineDown() (api.Pos, bool)      { return a.wanted(a.down(a.n)) }
func (a ask) lineUp() (api.Pos, bool)        { return a.wanted(a.up(a.n)) }
func (a ask) firstBelow() (api.Pos, bool)    { return a.firstOf(a.down(a.n)) }
func (a ask) firstAbove() (api.Pos, bool)    { return a.firstOf(a.up(a.n)) }
func (a ask) firstFromHere() (api.Pos, bool) { return a.firstOf(a.down(a.n - 1)) }

// numbered leads to a line by its number: the first one is number 1.
func (a ask) numbered() (api.Pos, bool) {
	return a.firstOf(min(a.n, len(a.l))-1, true)
}

func (a ask) numberedOrLast() (api.Pos, bool) {
	if a.m.Count <= 0 {
		return a.firstOf(len(a.l)-1, true)
	}
	return a.numbered()
}

func (a ask) left() (api.Pos, bool) {
	return a.inLine(a.p.Col - min(a.n, a.p.Col)), a.p.Col > 0
}

func (a ask) right() (api.Pos, bool) {
	end := len(a.here())
	if !a.op { // a cursor may not stand behind the last rune
		end--
	}
	room := end - a.p.Col
	return a.inLine(a.p.Col + min(a.n, room)), room > 0
}

func (a ask) begin() (api.Pos, bool)  { return a.inLine(0), true }
func (a ask) first() (api.Pos, bool)  { return a.firstOf(a.p.Line, true) }
func (a ask) column() (api.Pos, bool) { return word.Clip(a.l, a.inLine(a.n-1)), true }

func (a ask) end() (api.Pos, bool) {
	line, ok := a.down(a.n - 1)
	return word.Last(a.l[:line+1]), ok
}

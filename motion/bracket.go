package motion

import "inkhorn/api"

// bracket is one with the one that closes it, or opens it, and on which side that is: 1 behind it, -1 ahead; 0, if a rune is no bracket.
type bracket struct {
	own, other rune
	side       int
}

func bracketOf(r rune) bracket {
	switch r {
	case '(':
		return bracket{r, ')', 1}
	case '[':
		return bracket{r, ']', 1}
	case '{':
		return bracket{r, '}', 1}
	case ')':
		return bracket{r, '(', -1}
	case ']':
		return bracket{r, '[', -1}
	case '}':
		return bracket{r, '{', -1}
	}
	return bracket{}
}

// partner leads from the first bracket of the line from p on to the one that belongs to it.
func (a ask) partner() (api.Pos, bool) {
	line := a.here()
	for col := a.p.Col; col < len(line); col++ {
		if b := bracketOf(line[col]); b.side != 0 {
			return a.belonging(b, a.inLine(col))
		}
	}
	return api.Pos{}, false
}

// belonging tells where what belongs to a bracket at p is, and whether there is anything: there as many of its kind are closed as opened.
func (a ask) belonging(b bracket, p api.Pos) (api.Pos, bool) {
	open := 0
	for p.Line >= 0 && p.Line < len(a.l) {
		line := a.l[p.Line]
		for ; p.Col >= 0 && p.Col < len(line); p.Col += b.side {
			switch line[p.Col] {
			case b.own:
				open++
			case b.other:
				open--
			}
			if open == 0 {
				return p, true
			}
		}
		p = a.entry(p.Line+b.side, b.side)
	}
	return api.Pos{}, false
}

// entry tells the place at which one comes into a line who goes to that side. (It is none in an empty line, or where there is no such line: then there is no way through it.)
func (a ask) entry(line, side int) api.Pos {
	p := api.Pos{Line: line}
	if side < 0 && line >= 0 {
		p.Col = len(a.l[line]) - 1
	}
	return p
}

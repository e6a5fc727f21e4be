package oper

import (
	"slices"

	"inkhorn/api"
	"inkhorn/word"
)

// mostBy is how many blanks a line is shifted by at most.
const mostBy = 64

// Shift moves lines to the right, or left.
func Shift(l [][]rune, from, to, by int) ([][]rune, api.Errno) {
	if by < -mostBy || by > mostBy {
		return nil, api.ErrArg
	}
	if from < 0 || to < from || to >= len(l) {
		return nil, api.ErrRange
	}
	a := area{kind: api.KindLine, first: api.Pos{Line: from}, last: api.Pos{Line: to}}
	more := 0
	for _, n := range through(l, a, func(line []rune, _, _ int) int { return longer(line, by) }) {
		more += n
	}
	if more > room(l) {
		return nil, api.ErrFull
	}
	moved := through(l, a, func(line []rune, _, _ int) []rune { return shifted(line, by) })
	return replaced(l, from, to+1, moved), api.OK
}

// longer tells how many runes a line gets when it is shifted: fewer than none, if some go.
func longer(line []rune, by int) int {
	switch {
	case len(line) == 0:
		return 0
	case by < 0:
		return -min(-by, blanks(line))
	}
	return by
}

// shifted tells a line that is shifted.
func shifted(line []rune, by int) []rune {
	n := longer(line, by)
	if n < 0 {
		return copied(line[-n:])
	}
	return slices.Concat(spaces(n), line)
}

// Join makes one of some lines.
func Join(l [][]rune, at, n int) ([][]rune, api.Pos, api.Errno) {
	n = max(n, 2)
	if at < 0 || at > len(l)-n {
		return nil, api.Pos{}, api.ErrRange
	}
	one, column := joined(l[at : at+n])
	all := replaced(l, at, at+n, [][]rune{one})
	return settled(all, word.Clip(all, api.Pos{Line: at, Col: column}))
}

// joined tells one line of some, and the column at which the last one was put.
func joined(lines [][]rune) ([]rune, int) {
	one, column := copied(lines[0]), 0
	for _, line := range lines[1:] {
		column = len(one)
		line = line[blanks(line):]
		if isApart(one, line) {
			one = append(one, ' ')
		}
		one = append(one, line...)
	}
	return one, column
}

// isApart tells whether a blank stands between what is joined.
func isApart(ahead, line []rune) bool {
	return len(line) > 0 && line[0] != ')' && len(ahead) > 0 && !isBlank(ahead[len(ahead)-1])
}

// isBlank tells whether a rune is a blank or a tab.
func isBlank(r rune) bool {
	return word.Class(r, false) == 0
}

// blanks tells how many blanks and tabs are at a line's beginning.
func blanks(line []rune) int {
	n := 0
	for n < len(line) && isBlank(line[n]) {
		n++
	}
	return n
}

// firstRune tells the place of a line's first rune that is not blank, or of its last one.
func firstRune(l [][]rune, at int) api.Pos {
	return word.Clip(l, api.Pos{Line: at, Col: blanks(l[at])})
}

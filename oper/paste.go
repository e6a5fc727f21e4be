package oper

import (
	"slices"

	"inkhorn/api"
	"inkhorn/word"
)

// Paste puts what a register holds into lines.
func Paste(l [][]rune, p api.Pos, g api.Reg, behind bool, n int) ([][]rune, api.Pos, api.Errno) {
	if !isHeld(g) {
		return nil, api.Pos{}, api.ErrArg
	}
	if len(l) == 0 {
		return nil, api.Pos{}, api.ErrRange
	}
	p, n = word.Clip(l, p), max(n, 1)
	at, column := p.Line, p.Col
	if behind {
		at, column = at+1, min(column+1, len(l[p.Line]))
	}
	switch g.Kind {
	case api.KindLine:
		return pasteLines(l, at, g.Lines, n)
	case api.KindBlock:
		return pasteBlock(l, api.Pos{Line: p.Line, Col: column}, g.Lines, n)
	}
	return pasteChars(l, p, column, g.Lines, n)
}

// isHeld tells whether something may be pasted.
func isHeld(g api.Reg) bool {
	for _, line := range g.Lines {
		if slices.Contains(line, 10) {
			return false
		}
	}
	return isKind(g.Kind) && len(g.Lines) > 0
}

// pasteChars puts a text into p's line, at a column.
func pasteChars(l [][]rune, p api.Pos, column int, lines [][]rune, n int) ([][]rune, api.Pos, api.Errno) {
	size := runes(lines)
	n, ok := times(room(l), size, n)
	if !ok {
		return nil, api.Pos{}, api.ErrFull
	}
	to := api.Pos{Line: p.Line, Col: column}
	if len(lines) == 1 {
		to.Col += size*n - 1
		if size == 0 {
			to = p
		}
	}
	text, line := often(lines, n), l[p.Line]
	end := len(text) - 1
	text[0] = slices.Concat(line[:column], text[0])
	text[end] = append(text[end], line[column:]...)
	pasted := replaced(l, p.Line, p.Line+1, text)
	return pasted, word.Clip(pasted, to), api.OK
}

// often tells the lines of a text that stands n times: where one ends, the next one goes on in its line.
func often(lines [][]rune, n int) [][]rune {
	text := [][]rune{nil}
	for range n {
		end := len(text) - 1
		text[end] = append(text[end], lines[0]...)
		text = append(text, allCopied(lines[1:])...)
	}
	return text
}

// pasteLines puts lines ahead of a line, or behind the last one.
func pasteLines(l [][]rune, at int, lines [][]rune, n int) ([][]rune, api.Pos, api.Errno) {
	n, ok := times(room(l), runes(lines)+1, n)
	if !ok {
		return nil, api.Pos{}, api.ErrFull
	}
	var more [][]rune
	for range n {
		more = append(more, allCopied(lines)...)
	}
	pasted := replaced(l, at, at, more)
	return pasted, firstRune(pasted, at), api.OK
}

// pasteBlock puts lines into those from p's on, each at p's column.
func pasteBlock(l [][]rune, p api.Pos, lines [][]rune, n int) ([][]rune, api.Pos, api.Errno) {
	wide := longest(lines)
	n, ok := times(room(l)-lacking(l, p, len(lines)), wide*len(lines), n)
	if !ok {
		return nil, api.Pos{}, api.ErrFull
	}
	into := make([][]rune, 0, len(lines))
	for i, line := range lines {
		var old []rune
		if p.Line+i < len(l) {
			old = l[p.Line+i]
		}
		old = filled(old, p.Col)
		row := slices.Repeat(filled(line, wide), n)
		into = append(into, slices.Concat(old[:p.Col], row, old[p.Col:]))
	}
	pasted := replaced(l, p.Line, min(p.Line+len(lines), len(l)), into)
	return pasted, word.Clip(pasted, p), api.OK
}

// longest tells how long the longest line is.
func longest(lines [][]rune) int {
	n := 0
	for _, line := range lines {
		n = max(n, len(line))
	}
	return n
}

// lacking tells how many blanks and line ends there must be more, so that n lines from p's on reach p's column.
func lacking(l [][]rune, p api.Pos, n int) int {
	lines := l[p.Line:min(p.Line+n, len(l))]
	lack := (n - len(lines)) * (p.Col + 1)
	for _, line := range lines {
		lack += max(p.Col-len(line), 0)
	}
	return lack
}

// filled tells a line that blanks make as long as it must be, if it is shorter.
func filled(line []rune, length int) []rune {
	return slices.Concat(line, spaces(max(length-len(line), 0)))
}

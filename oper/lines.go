package oper

import (
	"slices"

	"inkhorn/api"
)

// runes tells how many runes lines have, the line ends between them counted.
func runes(l [][]rune) int {
	n := len(l) - 1
	for _, line := range l {
		n += len(line)
	}
	return n
}

// room tells how many runes there may be more: fewer than none, if there are too many.
func room(l [][]rune) int {
	return api.MaxRunes - runes(l)
}

// times tells how often something of a size is to be put, so that it is there n times, and whether there is room for it. What has no runes is put once, as more of it makes no difference: n may be as great as an int is.
func times(room, size, n int) (int, bool) {
	if size == 0 {
		return 1, room >= 0
	}
	return n, n <= room/size
}

// settled answers lines and a place, if the lines have not too many runes.
func settled(l [][]rune, p api.Pos) ([][]rune, api.Pos, api.Errno) {
	if room(l) < 0 {
		return nil, api.Pos{}, api.ErrFull
	}
	return l, p, api.OK
}

// replaced tells the lines with others in the place of some. All but the others are copies.
func replaced(l [][]rune, from, to int, others [][]rune) [][]rune {
	return slices.Concat(allCopied(l[:from]), others, allCopied(l[to:]))
}

// allCopied tells lines in memory of their own.
func allCopied(l [][]rune) [][]rune {
	own := make([][]rune, len(l))
	for i, line := range l {
		own[i] = copied(line)
	}
	return own
}

// copied tells a line in memory of its own.
func copied(line []rune) []rune {
	return append([]rune(nil), line...)
}

// spaces tells a line of blanks.
func spaces(n int) []rune {
	return slices.Repeat([]rune{' '}, n)
}

package word

import "inkhorn/api"

// isEmpty tells whether a line is.
func isEmpty(l [][]rune, line int) bool {
	return len(l[line]) == 0
}

// wordBegins tells whether a word begins at a cursor's place.
func wordBegins(l [][]rune, p api.Pos, big bool) bool {
	return isEmpty(l, p.Line) || isEdge(l[p.Line], p.Col, -1, big)
}

// wordEnds tells whether a word ends at a cursor's place.
func wordEnds(l [][]rune, p api.Pos, big bool) bool {
	return !isEmpty(l, p.Line) && isEdge(l[p.Line], p.Col, 1, big)
}

// isEdge tells whether a line's rune is not blank, and the one beside it on that side is of another class, or there is none.
func isEdge(line []rune, col, side int, big bool) bool {
	class, beside := Class(line[col], big), col+side
	switch {
	case class == classBlank:
		return false
	case beside < 0 || beside == len(line):
		return true
	}
	return Class(line[beside], big) != class
}

// sentenceBegins tells whether a sentence begins at a cursor's place.
func sentenceBegins(l [][]rune, p api.Pos) bool {
	if isEmpty(l, p.Line) {
		return p.Line > 0 && !isEmpty(l, p.Line-1)
	}
	line := l[p.Line]
	if isBlank(line[p.Col]) {
		return false
	}
	said := withoutBlanks(line[:p.Col])
	if len(said) == 0 { // it is the line's first rune that is not blank
		return p.Line == 0 || mayFollow(l[p.Line-1])
	}
	return len(said) < p.Col && endsSentence(said)
}

// mayFollow tells whether a sentence may begin in the line behind that one.
func mayFollow(line []rune) bool {
	said := withoutBlanks(line)
	return len(said) == 0 || endsSentence(said)
}

// isBlank tells whether a rune is.
func isBlank(r rune) bool {
	return Class(r, true) == classBlank
}

// withoutBlanks tells runes without the blanks at their end.
func withoutBlanks(l []rune) []rune {
	for len(l) > 0 && isBlank(l[len(l)-1]) {
		l = l[:len(l)-1]
	}
	return l
}

// endsSentence tells whether a sentence's end stands behind those runes.
func endsSentence(said []rune) bool {
	for i := len(said) - 1; i >= 0; i-- {
		switch said[i] {
		case '.', '!', '?':
			return true
		case ')', ']', '"', '\'': // it may stand behind the . ! or ?
		default:
			return false
		}
	}
	return false
}

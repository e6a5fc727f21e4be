package regmatch

import "inkhorn/api"

// Word tells whether a rune is a word rune.
func Word(r rune) bool {
	switch {
	case '0' <= r && r <= '9', 'A' <= r && r <= 'Z', 'a' <= r && r <= 'z', r == '_':
		return true
	}
	return r >= 0x80
}

// stands tells whether a place is one of that kind. An end is a beginning for one who comes from the other side: so its case turns round what is asked, and goes on to that of the beginning.
func stands(kind int, line []rune, at int) bool {
	rest := len(line) - at
	behind := rest > 0 && Word(line[at])
	ahead := at > 0 && Word(line[at-1])
	switch kind {
	case api.ReEnd:
		at = rest
		fallthrough
	case api.ReBegin:
		return at == 0
	case api.ReWordE:
		behind, ahead = ahead, behind
		fallthrough
	default: // a word's beginning
		return behind && !ahead
	}
}

// takes tells whether a part, which is one of a rune, is one of that rune.
func takes(part *api.Re, c rune) bool {
	switch part.Kind {
	case api.ReRune:
		return c == part.R
	case api.ReSet:
		return within(part.Set, int(c)) != part.Not
	}
	return true
}

// within tells whether one of the spans, whose ends are in them, has that number.
func within(l []api.Span, n int) bool {
	for _, s := range l {
		if s.From <= n && n <= s.To {
			return true
		}
	}
	return false
}

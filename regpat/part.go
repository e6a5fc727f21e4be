package regpat

import "inkhorn/api"

// tooLarge is the size of all that is larger than a pattern may be: sizes grow no further, so none leaves an int.
const tooLarge = api.MaxNodes + 1

// part is a part of a pattern, and its size. One that is too large has its size alone: the pattern around it, which is read to its end for its errors, is none.
type part struct {
	re   api.Re
	size int
}

// sized tells a part of that size.
func sized(re api.Re, size int) part {
	if size >= tooLarge {
		return part{size: tooLarge}
	}
	return part{re, size}
}

// simple tells a part that has no parts.
func simple(re api.Re) part {
	return part{re, 1}
}

// letter tells a part that is one rune.
func letter(c rune) part {
	return simple(api.Re{Kind: api.ReRune, R: c})
}

// starred tells a part from lo to hi times.
func starred(x part, lo, hi int) part {
	return sized(api.Re{Kind: api.ReStar, Lo: lo, Hi: hi, Parts: []api.Re{x.re}}, 1+x.size*max(1, lo, hi))
}

// group tells a part as group n.
func group(x part, n int) part {
	return sized(api.Re{Kind: api.ReGroup, Lo: n, Parts: []api.Re{x.re}}, 1+x.size)
}

// list is parts that stand beside one another, and all their sizes.
type list struct {
	parts []api.Re
	size  int
}

// add puts a part behind the others.
func (l *list) add(x part) {
	l.size = min(l.size+x.size, tooLarge)
	if l.size < tooLarge {
		l.parts = append(l.parts, x.re)
	}
}

// joined tells the part of that kind that has several, or the one that there is, or of none the empty one.
func (l *list) joined(kind int) part {
	switch {
	case l.size == 0:
		return simple(api.Re{Kind: api.ReEmpty})
	case len(l.parts) == 1:
		return sized(l.parts[0], l.size)
	}
	return sized(api.Re{Kind: kind, Parts: l.parts}, 1+l.size)
}

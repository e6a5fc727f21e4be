package regpat

import (
	"slices"

	"inkhorn/api"
)

// reader reads a pattern from the left. At an error it gives up, by a panic with its number.
type reader struct {
	p      []rune
	at     int // the rune that is next
	groups int // how many have begun
	open   int // how many of them have not ended
}

// whole reads all of the pattern.
func (r *reader) whole() part {
	x := r.alternatives()
	switch {
	case r.at < len(r.p): // at a \) that no group has taken
		panic(api.ErrBracket)
	case x.size >= tooLarge:
		panic(api.ErrDeep)
	}
	return x
}

// alternatives reads them up to the pattern's end, or to a \), which it leaves.
func (r *reader) alternatives() part {
	var l list
	l.add(r.alternative())
	for r.took('\\', '|') {
		l.add(r.alternative())
	}
	return l.joined(api.ReAlt)
}

// alternative reads one, up to its end.
func (r *reader) alternative() part {
	var pieces list
	if r.took('^') {
		pieces.add(simple(api.Re{Kind: api.ReBegin}))
	}
	for !r.ended() {
		pieces.add(r.repeated(r.atom()))
	}
	return pieces.joined(api.ReCat)
}

// ended tells whether the alternative at hand has ended.
func (r *reader) ended() bool {
	return r.at == len(r.p) || r.sees('\\', '|') || r.sees('\\', ')')
}

// repeated reads the repetitions of a part.
func (r *reader) repeated(x part) part {
	for {
		switch {
		case r.took('*'):
			x = starred(x, 0, -1)
		case r.took('\\', '{'):
			lo, hi := r.counts()
			x = starred(x, lo, hi)
		default:
			return x
		}
	}
}

// counts reads what stands behind \{, and its \}.
func (r *reader) counts() (lo, hi int) {
	lo, ok := r.number()
	if !ok {
		panic(api.ErrRepeat)
	}
	hi = lo
	if r.took(',') {
		hi = -1
		if n, ok := r.number(); ok {
			hi = n
		}
	}
	switch {
	case max(lo, hi) > api.MaxTimes || 0 <= hi && hi < lo:
		panic(api.ErrRepeat)
	case !r.took('\\', '}'):
		panic(api.ErrBracket)
	}
	return lo, hi
}

// number reads digits; there may be none. What is above MaxTimes is told as one above it, however many they are.
func (r *reader) number() (n int, ok bool) {
	for r.at < len(r.p) && '0' <= r.p[r.at] && r.p[r.at] <= '9' {
		n, ok = min(n*10+int(r.next()-'0'), api.MaxTimes+1), true
	}
	return n, ok
}

// atom reads one. A * is one where nothing stands ahead that it could repeat: else it has been taken as a repetition.
func (r *reader) atom() part {
	c := r.next()
	switch {
	case c == '.':
		return simple(api.Re{Kind: api.ReAny})
	case c == '[':
		return simple(r.set())
	case c == '$' && r.ended():
		return simple(api.Re{Kind: api.ReEnd})
	case c == '\\':
		return r.escaped()
	}
	return letter(c)
}

// escaped reads what stands behind a \ with which an atom begins.
func (r *reader) escaped() part {
	if r.at == len(r.p) {
		panic(api.ErrForm)
	}
	switch c := r.next(); c {
	case '(':
		return r.group()
	case '<':
		return simple(api.Re{Kind: api.ReWordB})
	case '>':
		return simple(api.Re{Kind: api.ReWordE})
	case '{': // nothing stands ahead that it could repeat, either
		panic(api.ErrRepeat)
	case '}': // its \{ would have taken it
		panic(api.ErrBracket)
	default:
		return letter(c)
	}
}

// group reads what stands behind \(, and its \).
func (r *reader) group() part {
	if r.open == api.MaxNest {
		panic(api.ErrDeep)
	}
	r.open++
	r.groups++
	n := r.groups
	x := r.alternatives()
	if !r.took('\\', ')') {
		panic(api.ErrBracket)
	}
	r.open--
	return group(x, n)
}

// set reads what stands behind [, and its ]. That it has none is told ahead of items that go down: the [ stands ahead of them.
func (r *reader) set() api.Re {
	set := api.Re{Kind: api.ReSet, Not: r.took('^')}
	down := false
	for len(set.Set) == 0 || !r.took(']') {
		if r.at == len(r.p) {
			panic(api.ErrBracket)
		}
		item := r.item()
		down = down || item.To < item.From
		set.Set = append(set.Set, item)
	}
	if down {
		panic(api.ErrForm)
	}
	return set
}

// item reads one of a set.
func (r *reader) item() api.Span {
	from := int(r.next())
	rest := r.p[r.at:]
	if len(rest) < 2 || rest[0] != '-' || rest[1] == ']' {
		return api.Span{From: from, To: from}
	}
	r.at += 2
	return api.Span{From: from, To: int(rest[1])}
}

// next takes the next rune.
func (r *reader) next() rune {
	r.at++
	return r.p[r.at-1]
}

// sees tells whether these runes are next.
func (r *reader) sees(l ...rune) bool {
	rest := r.p[r.at:]
	return len(rest) >= len(l) && slices.Equal(rest[:len(l)], l)
}

// took takes these runes, if they are next.
func (r *reader) took(l ...rune) bool {
	if !r.sees(l...) {
		return false
	}
	r.at += len(l)
	return true
}

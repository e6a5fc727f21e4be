package object

import (
	"iter"

	"inkhorn/api"
)

// pair is an opening bracket, and the one that closes it.
type pair [2]rune

// pairs are all of them, in the order in which keys go on to them.
var pairs = [4]pair{{'(', ')'}, {'[', ']'}, {'{', '}'}, {'<', '>'}}

// bracketed tells the nearest pair of brackets around p. (If the nearest opening one that isn't closed ahead of p is never closed, then none further ahead is: so no other has to be asked.)
func (a ask) bracketed(b pair) (api.Region, bool) {
	from, opened := a.lone(b[0], b[1], -1)
	to, closed := a.lone(b[1], b[0], 1)
	if !opened || !closed {
		return api.Region{}, false
	}
	return a.between(from, to)
}

// lone tells the bracket that is nearest to p, at it or on that side, and has not its other one between.
func (a ask) lone(own, other rune, side int) (api.Pos, bool) {
	others := 0
	for at, r := range a.outward(side) {
		switch {
		case r == own && others == 0:
			return at, true
		case r == own:
			others--
		case r == other && at != a.p: // at p it is the other one of the pair that is looked for
			others++
		}
	}
	return api.Pos{}, false
}

// outward yields the runes of all lines from p on to that side (1 behind it, -1 ahead), with their places.
func (a ask) outward(side int) iter.Seq2[api.Pos, rune] {
	return func(yield func(api.Pos, rune) bool) {
		at := a.p
		for at.Line >= 0 && at.Line < len(a.l) {
			line := a.l[at.Line]
			for ; at.Col >= 0 && at.Col < len(line); at.Col += side {
				if !yield(at, line[at.Col]) {
					return
				}
			}
			at = a.entry(at.Line+side, side)
		}
	}
}

// entry tells the column at which one comes into a line who goes to that side. (It is none in an empty line, or where there is no such line: then there is no way through it.)
func (a ask) entry(line, side int) api.Pos {
	at := api.Pos{Line: line}
	if side < 0 && line >= 0 {
		at.Col = len(a.l[line]) - 1
	}
	return at
}

// quoted tells the first pair of quotes of p's line that does not end ahead of p.
func (a ask) quoted(quote rune) (api.Region, bool) {
	var both [2]int
	seen := 0
	for col, r := range a.l[a.p.Line] {
		if r != quote {
			continue
		}
		both[seen%2] = col
		seen++
		if seen%2 == 0 && col >= a.p.Col {
			return a.between(a.inLine(both[0]), a.inLine(both[1]))
		}
	}
	return api.Region{}, false
}

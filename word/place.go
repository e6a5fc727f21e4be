package word

import (
	"iter"

	"inkhorn/api"
)

// behind yields the cursor's places behind p, the nearest one first.
func behind(l [][]rune, p api.Pos) iter.Seq[api.Pos] {
	return func(yield func(api.Pos) bool) {
		last := Last(l)
		for at := Clip(l, p); at != last; {
			at.Col++
			if at.Col >= len(l[at.Line]) { // it may be above: an empty line has a place, too
				at = api.Pos{Line: at.Line + 1}
			}
			if !yield(at) {
				return
			}
		}
	}
}

// ahead yields the cursor's places ahead of p, the nearest one first.
func ahead(l [][]rune, p api.Pos) iter.Seq[api.Pos] {
	return func(yield func(api.Pos) bool) {
		for at := Clip(l, p); at != (api.Pos{}); {
			if at.Col > 0 {
				at.Col--
			} else {
				at = Last(l[:at.Line])
			}
			if !yield(at) {
				return
			}
		}
	}
}

// next tells the nearest of the places behind p that are what is asked for, or the last place of all.
func next(l [][]rune, p api.Pos, is func(api.Pos) bool) api.Pos {
	for at := range behind(l, p) {
		if is(at) {
			return at
		}
	}
	return Last(l)
}

// prev tells the nearest of the places ahead of p that are what is asked for, or the first place of all.
func prev(l [][]rune, p api.Pos, is func(api.Pos) bool) api.Pos {
	for at := range ahead(l, p) {
		if is(at) {
			return at
		}
	}
	return api.Pos{}
}

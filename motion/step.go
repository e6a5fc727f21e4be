package motion

import (
	"inkhorn/api"
	"inkhorn/word"
)

// step leads from a cursor's place to another one, or to the same one, if it doesn't move.
type step func(l [][]rune, p api.Pos) api.Pos

// steps goes on n times, as far as steps move, and tells where the last step that did so began, where it led, and whether there was one.
func (a ask) steps(one step) (began, to api.Pos, moved bool) {
	began, to = a.p, a.p
	for range a.n {
		next := one(a.l, to)
		if next == to { // all further ones would stay there, too
			break
		}
		began, to, moved = to, next, true
	}
	return began, to, moved
}

// far tells where n steps lead, and whether the first one moves.
func (a ask) far(one step) (api.Pos, bool) {
	_, to, moved := a.steps(one)
	return to, moved
}

// words makes a step of a call that is told whether words are big: of capital keys they are.
func (a ask) words(of func(l [][]rune, p api.Pos, big bool) api.Pos) step {
	big := a.m.Key < 'a'
	return func(l [][]rune, p api.Pos) api.Pos { return of(l, p, big) }
}

// nextWord ends for an operator where the line ends, if its last step left it: what is behind is none of the word's.
func (a ask) nextWord() (api.Pos, bool) {
	began, to, moved := a.steps(a.words(word.Next))
	if a.op && to.Line != began.Line {
		to = api.Pos{Line: began.Line, Col: len(a.l[began.Line])}
	}
	return to, moved
}

func (a ask) prevWord() (api.Pos, bool)  { return a.far(a.words(word.Prev)) }
func (a ask) endOfWord() (api.Pos, bool) { return a.far(a.words(word.End)) }
func (a ask) nextPara() (api.Pos, bool)  { return a.far(word.ParaNext) }
func (a ask) prevPara() (api.Pos, bool)  { return a.far(word.ParaPrev) }
func (a ask) nextSent() (api.Pos, bool)  { return a.far(word.SentNext) }
func (a ask) prevSent() (api.Pos, bool)  { return a.far(word.SentPrev) }

package regmatch

import "inkhorn/api"

// Kinds of steps.
const (
	stepEnd   = iota // the way ends
	stepTake         // takes a rune, if the part tells it
	stepPlace        // goes on, if the part tells the place
	stepNote         // notes the place as an end of a group
	stepFork         // goes both ways; if it is into a round, that one must not be empty
	stepLeave        // goes on, unless it is out of a round that must not be empty, and is
)

// step is an instruction: what a thread does that stands at it, and where it goes on.
type step struct {
	kind int
	part api.Re // of stepTake and stepPlace
	note note   // of stepNote
	deep int    // of stepLeave, and of a stepFork into a round: how many repetitions the round is in; of other ones 0
	to   int    // the next step; of stepFork that of the way that is ahead
	or   int    // of stepFork: that of the other way
}

// add puts a step behind all others, and tells where it is.
func (x *Prog) add(s step) int {
	x.steps = append(x.steps, s)
	return len(x.steps) - 1
}

// write adds the steps of a part that is in so many repetitions, behind which a way goes on at next, and tells at which one a way of the part begins.
func (x *Prog) write(re api.Re, deep, next int) int {
	switch re.Kind {
	case api.ReEmpty:
		return next
	case api.ReRune, api.ReAny, api.ReSet:
		return x.add(step{kind: stepTake, part: re, to: next})
	case api.ReCat:
		for i := len(re.Parts) - 1; i >= 0; i-- {
			next = x.write(re.Parts[i], deep, next)
		}
		return next
	case api.ReAlt:
		return x.writeOne(re.Parts, deep, next)
	case api.ReGroup:
		end := x.add(step{kind: stepNote, note: note{group: re.Lo, end: true}, to: next})
		begin := x.write(re.Parts[0], deep, end)
		return x.add(step{kind: stepNote, note: note{group: re.Lo}, to: begin})
	case api.ReStar:
		return x.writeRepeat(re, deep+1, next)
	}
	return x.add(step{kind: stepPlace, part: re, to: next})
}

// writeOne adds the steps of one of the parts.
func (x *Prog) writeOne(parts []api.Re, deep, next int) int {
	last := len(parts) - 1
	at := x.write(parts[last], deep, next)
	for i := last - 1; i >= 0; i-- {
		at = x.add(step{kind: stepFork, to: x.write(parts[i], deep, next), or: at})
	}
	return at
}

// writeRepeat adds the steps of a repetition: of each round by themselves, but of rounds without end of one alone, which goes round. The last round that has to be is the first one of these: if it were written out beside them, a repetition of a repetition of a repetition would be written out twice as often by each.
func (x *Prog) writeRepeat(re api.Re, deep, next int) int {
	x.deepest = max(x.deepest, deep)
	part, at, must := re.Parts[0], next, re.Lo
	if re.Hi < 0 {
		at = x.writeLoop(part, deep, next)
		if must > 0 {
			at, must = x.steps[at].to, must-1
		}
	}
	for range re.Hi - re.Lo { // none, if Hi is -1
		at = x.add(step{kind: stepFork, deep: deep, to: x.writeRound(part, deep, at), or: next})
	}
	for range must {
		at = x.write(part, deep, at)
	}
	return at
}

// writeLoop adds the steps of any number of rounds, and tells the one that forks into one more and none.
func (x *Prog) writeLoop(part api.Re, deep, next int) int {
	fork := x.add(step{kind: stepFork, deep: deep, or: next})
	x.steps[fork].to = x.writeRound(part, deep, fork)
	return fork
}

// writeRound adds the steps of a round, and of leaving it.
func (x *Prog) writeRound(part api.Re, deep, next int) int {
	return x.write(part, deep, x.add(step{kind: stepLeave, deep: deep, to: next}))
}

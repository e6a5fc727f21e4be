package regmatch

import "inkhorn/api"

// note tells that a way has come to an end of a group.
type note struct {
	group int
	end   bool  // it is where the group ends, not where it begins
	at    int   // the place
	ahead *note // what the way has noted ahead of this
}

// thread is a way up to the place at hand.
type thread struct {
	step int
	from int   // the place at which it began
	must int   // how deep the innermost of its rounds is that may not end at the place at hand; 0: there is none
	last *note // what it has noted
}

// run goes through a line, all ways at once.
type run struct {
	prog  *Prog
	line  []rune
	at    int      // the place at hand
	here  []thread // they stand at steps that take a rune: the first one is ahead of all others
	come  []thread // they have taken one, and come to the place at hand
	todo  []thread // they have to be followed: the last one first
	turn  int      // how many places have been at hand
	seen  []int    // of each step and each must the last turn at which a thread stood there so
	found bool
	match thread // if it is found
	end   int    // the match's
}

// begun tells what goes through a line.
func (x *Prog) begun(line []rune) *run {
	return &run{prog: x, line: line, seen: make([]int, len(x.steps)*(x.deepest+1))}
}

// from tells the spans of the match from a place on, or nil: it goes on from there up to where no way can lead to another match than the one that is found.
func (r *run) from(place int) []api.Span {
	r.found, r.come = false, r.come[:0]
	for r.at = place; ; r.at++ {
		r.arrive()
		if r.at == len(r.line) || r.found && len(r.here) == 0 {
			return r.spans()
		}
		r.take()
	}
}

// arrive follows the threads that have come to the place at hand, and behind all of them one that begins there, unless there is a match from a place ahead.
func (r *run) arrive() {
	r.turn++
	r.here = r.here[:0]
	for _, t := range r.come {
		r.follow(t)
	}
	if !r.found {
		r.follow(thread{step: r.prog.first, from: r.at})
	}
}

// take lets the threads take the next rune. Those that don't are gone, and so are those that began behind the match's beginning.
func (r *run) take() {
	r.come = r.come[:0]
	for _, t := range r.here {
		s := &r.prog.steps[t.step]
		if takes(&s.part, r.line[r.at]) && !(r.found && t.from > r.match.from) {
			r.come = append(r.come, thread{step: s.to, from: t.from, last: t.last})
		}
	}
}

// follow moves a thread on as far as it comes without a rune, by all ways, in their order. Where a thread can go hangs on its step and its must alone: so of those that come to a place with the same ones the first goes on, and no other. (One with a lesser must could go wherever it can with a greater one, too. But it may have come to the same step again by an empty round, ahead of ways on which it has yet to go.)
func (r *run) follow(t thread) {
	r.todo = append(r.todo, t)
	for len(r.todo) > 0 {
		last := len(r.todo) - 1
		t, r.todo = r.todo[last], r.todo[:last]
		if seen := &r.seen[t.step*(r.prog.deepest+1)+t.must]; *seen < r.turn {
			*seen = r.turn
			r.move(t)
		}
	}
}

// move lets a thread do what the step at which it stands says.
func (r *run) move(t thread) {
	s := &r.prog.steps[t.step]
	next := t
	next.step = s.to
	switch s.kind {
	case stepEnd: // the first thread that ends here; it began at no greater place than that of the match ahead
		r.found, r.match, r.end = true, t, r.at
		return
	case stepTake:
		r.here = append(r.here, t)
		return
	case stepPlace:
		if !stands(s.part.Kind, r.line, r.at) {
			return
		}
	case stepNote:
		n := s.note
		n.at, n.ahead = r.at, t.last
		next.last = &n
	case stepFork:
		other := t
		other.step = s.or
		r.todo = append(r.todo, other)
		next.must = max(t.must, s.deep)
	case stepLeave:
		if t.must == s.deep {
			return
		}
	}
	r.todo = append(r.todo, next)
}

// spans tells the match's span, and those of the groups: what was noted last holds; nil, if no match is found.
func (r *run) spans() []api.Span {
	if !r.found {
		return nil
	}
	l := make([]api.Span, r.prog.groups+1)
	for i := range l {
		l[i] = api.Span{From: -1, To: -1}
	}
	l[0] = api.Span{From: r.match.from, To: r.end}
	for n := r.match.last; n != nil; n = n.ahead {
		place := &l[n.group].From
		if n.end {
			place = &l[n.group].To
		}
		if *place < 0 {
			*place = n.at
		}
	}
	return l
}

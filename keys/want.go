package keys

import (
	"strings"

	"inkhorn/api"
)

const (
	ctrlW = 23
	esc   = 27
)

// What runes may be in a command; each rune of a text is one of them.
const (
	firstDigits = "123456789"
	operators   = "dcy<>"
	gOperators  = "~uU" // behind g
	motions     = "hljk+-_G0^$|wWbBeE%{}()HML;,nN"
	argMotions  = "ftFT'`" // with a rune behind them
	objects     = "wWp()b[]{}B<>\"'`"
	keysOfBoth  = "oOvV:/?\x16\x12\x0f\x09\x05\x19\x04\x15\x0c\x1b" // behind the ?: ^V ^R ^O ^I ^E ^Y ^D ^U ^L Esc
	normalKeys  = "xXDCYsSJpPiIaA.uR~"
	visualOps   = "~uUxDXsSCYJp" // beside the operators
)

// want is what a command wants next.
type want interface {
	// take puts what a rune says into a command, and tells what it wants behind it, and how far it is: More, Done or Bad.
	take(c *api.Cmd, r rune) (want, int)
}

// command wants all that may begin one; it does so again behind a register and behind a count.
type command struct{ visual bool }

func (w command) take(c *api.Cmd, r rune) (want, int) {
	switch {
	case r == '"':
		return register{w}, More
	case isOf(firstDigits, r):
		return digits{ahead: c.Count, then: w}.take(c, r)
	case isOf(operators, r):
		return w.operator(c, r)
	case r == 'g':
		return behindG{w}, More
	case r == 'm':
		c.Key = r
		return argument{}, More
	case r == 'z' || r == ctrlW:
		c.Pre = r
		return freeKey{}, More
	case isOf(keysOfBoth, r):
		c.Key = r
		return nil, Done
	case w.visual:
		return takeVisual(c, r)
	}
	return takeNormal(c, r)
}

// operator has an operator's rune: in visual mode it ends the command, as what is marked is what it works on.
func (w command) operator(c *api.Cmd, r rune) (want, int) {
	c.Op = r
	if w.visual {
		return nil, Done
	}
	return operand{}, More
}

// takeNormal takes what normal mode takes in a manner of its own, and motions.
func takeNormal(c *api.Cmd, r rune) (want, int) {
	switch {
	case isOf(normalKeys, r):
		c.Key = r
		return nil, Done
	case r == 'r':
		c.Key = r
		return argument{}, More
	}
	return takeMotion(c, r)
}

// takeVisual takes what visual mode takes in a manner of its own, and motions.
func takeVisual(c *api.Cmd, r rune) (want, int) {
	switch {
	case isOf(visualOps, r):
		c.Op = r
		return nil, Done
	case r == 'r':
		c.Op = r
		return argument{}, More
	case r == 'i' || r == 'a':
		c.Pre = r
		return object{}, More
	}
	return takeMotion(c, r)
}

// takeMotion takes a motion's first rune.
func takeMotion(c *api.Cmd, r rune) (want, int) {
	switch {
	case isOf(motions, r):
		c.Key = r
		return nil, Done
	case isOf(argMotions, r):
		c.Key = r
		return argument{}, More
	case r == 'g':
		return secondG{}, More
	}
	return nil, Bad
}

// register wants a register's name.
type register struct{ then want }

func (w register) take(c *api.Cmd, r rune) (want, int) {
	if r == esc {
		return nil, Bad
	}
	c.Reg = r
	return w.then, More
}

// digits wants a count's further digits, or what comes behind it.
type digits struct {
	ahead int // the counts ahead of it, multiplied; 0, if there are none
	here  int // what its digits say so far
	then  want
}

func (w digits) take(c *api.Cmd, r rune) (want, int) {
	if r < '0' || '9' < r {
		return w.then.take(c, r)
	}
	digit := int(r - '0')
	w.here = min(times(w.here, 10), api.MaxCount-digit) + digit
	c.Count = times(max(w.ahead, 1), w.here)
	return w, More
}

// times multiplies a count, as far as counts go.
func times(count, by int) int {
	if count > api.MaxCount/by {
		return api.MaxCount
	}
	return count * by
}

// operand wants what an operator works on.
type operand struct{}

func (w operand) take(c *api.Cmd, r rune) (want, int) {
	switch {
	case isOf(firstDigits, r):
		return digits{ahead: c.Count, then: w}.take(c, r)
	case r == c.Op:
		c.Line = true
		return nil, Done
	case r == 'i' || r == 'a':
		c.Pre = r
		return object{}, More
	}
	return takeMotion(c, r)
}

// object wants an object's key.
type object struct{}

func (object) take(c *api.Cmd, r rune) (want, int) {
	if !isOf(objects, r) {
		return nil, Bad
	}
	c.Key = r
	return nil, Done
}

// behindG wants what a g at a command's beginning may have behind it.
type behindG struct{ command command }

func (w behindG) take(c *api.Cmd, r rune) (want, int) {
	if isOf(gOperators, r) {
		return w.command.operator(c, r)
	}
	return secondG{}.take(c, r)
}

// secondG wants the g that makes a motion of one.
type secondG struct{}

func (secondG) take(c *api.Cmd, r rune) (want, int) {
	if r != 'g' {
		return nil, Bad
	}
	c.Pre, c.Key = r, r
	return nil, Done
}

// argument wants the rune that a key has behind it.
type argument struct{}

func (argument) take(c *api.Cmd, r rune) (want, int) {
	if r == esc {
		return nil, Bad
	}
	c.Arg = r
	return nil, Done
}

// freeKey wants a key, whichever it is.
type freeKey struct{}

func (freeKey) take(c *api.Cmd, r rune) (want, int) {
	if r == esc {
		return nil, Bad
	}
	c.Key = r
	return nil, Done
}

// isOf tells whether a rune is one of those of a text.
func isOf(text string, r rune) bool {
	return strings.ContainsRune(text, r)
}

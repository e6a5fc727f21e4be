package register

import "inkhorn/api"

// isReg tells whether a register may hold something.
func isReg(r api.Reg) bool {
	switch r.Kind {
	case api.KindChar, api.KindLine, api.KindBlock:
		return size(r) <= api.MaxRunes
	}
	return false
}

// size tells how many runes something has, one counted for each line.
func size(r api.Reg) int {
	n := len(r.Lines)
	for _, line := range r.Lines {
		n += len(line)
	}
	return n
}

// copied tells something in memory of its own, line by line: a line that stands there twice, too.
func copied(r api.Reg) api.Reg {
	own := api.Reg{Kind: r.Kind, Lines: make([][]rune, len(r.Lines))}
	for i, line := range r.Lines {
		own.Lines[i] = append([]rune(nil), line...)
	}
	return own
}

// isJoined tells whether the last line of what is held and the first one of what comes behind it become one.
func isJoined(held, r api.Reg) bool {
	return len(held.Lines) > 0 && held.Kind == api.KindChar && r.Kind == api.KindChar
}

// isOver tells whether what is held, and something behind it, are more than a register may hold.
func isOver(held, r api.Reg) bool {
	n := size(held) + size(r)
	if isJoined(held, r) {
		n--
	}
	return n > api.MaxRunes
}

// joined tells what is held, and something behind it. It grows in the memory of what is held, which is then nobody's any more: so many small ones put behind one another do not copy all each time.
func joined(held, r api.Reg) api.Reg {
	switch {
	case len(held.Lines) == 0:
		return r
	case isJoined(held, r):
		end := len(held.Lines) - 1
		held.Lines[end] = append(held.Lines[end], r.Lines[0]...)
		return api.Reg{Kind: api.KindChar, Lines: append(held.Lines, r.Lines[1:]...)}
	}
	return api.Reg{Kind: api.KindLine, Lines: append(held.Lines, r.Lines...)}
}

package motion

import "inkhorn/api"

// find tells where in its line the nth rune Arg behind p is (side 1), or ahead of it (side -1), and whether there are so many.
func (a ask) find(side int) (api.Pos, bool) {
	line, n := a.here(), a.n
	for col := a.p.Col + side; col >= 0 && col < len(line); col += side {
		if line[col] != a.m.Arg {
			continue
		}
		if n--; n == 0 {
			return a.inLine(col), true
		}
	}
	return api.Pos{}, false
}

// till tells the place beside that one, on this side of it.
func (a ask) till(side int) (api.Pos, bool) {
	p, ok := a.find(side)
	p.Col -= side
	return p, ok
}

func (a ask) findBehind() (api.Pos, bool) { return a.find(1) }
func (a ask) findAhead() (api.Pos, bool)  { return a.find(-1) }
func (a ask) tillBehind() (api.Pos, bool) { return a.till(1) }
func (a ask) tillAhead() (api.Pos, bool)  { return a.till(-1) }

package oper_test

import (
	"math"
	"strings"
	"testing"

	"inkhorn/api"
	"inkhorn/oper"
)

// 13.2: Paste

// paste is a call of Paste, and what it answers.
type paste struct {
	lines  string
	p      api.Pos
	reg    string
	behind bool
	n      int
	want   string
	pos    api.Pos
}

// wantPasted fails, if Paste answers something else.
func wantPasted(t *testing.T, kind int, all []paste) {
	t.Helper()
	for _, x := range all {
		g := api.Reg{Kind: kind, Lines: lines(x.reg)}
		got := of(oper.Paste(lines(x.lines), x.p, g, x.behind, x.n))
		if (got != answer{x.want, x.pos, api.OK}) {
			t.Errorf("Paste(%q, %v, %q of kind %d, %t, %d): %v, not %q, %v", x.lines, x.p, x.reg, kind, x.behind, x.n, got, x.want, x.pos)
		}
	}
}

func TestPasteCharacters(t *testing.T) {
	wantPasted(t, char, []paste{
		{"abc", at(0, 1), "x", false, 1, "axbc", at(0, 1)},
		{"abc", at(0, 1), "x", true, 1, "abxc", at(0, 2)},
		{"abc", at(0, 2), "x", true, 1, "abcx", at(0, 3)},
		{"abc", at(0, 1), "xyz", false, 1, "axyzbc", at(0, 3)},
		{"abc", at(0, 1), "xy", true, 3, "abxyxyxyc", at(0, 7)},
		{"abc", at(0, 0), "xy", false, 0, "xyabc", at(0, 1)},
		{"abc", at(0, 0), "xy", false, -3, "xyabc", at(0, 1)},
		{"abc", at(0, 0), "xy", true, math.MinInt, "axybc", at(0, 2)},
		// an empty line: nothing is behind its place
		{"", at(0, 0), "xy", true, 1, "xy", at(0, 1)},
		{"", at(0, 0), "xy", false, 1, "xy", at(0, 1)},
		{"a||b", at(1, 0), "xy", true, 2, "a|xyxy|b", at(1, 3)},
		// the place is clipped
		{"abc", at(0, 9), "x", true, 1, "abcx", at(0, 3)},
		{"abc", at(0, 9), "x", false, 1, "abxc", at(0, 2)},
		{"ab|cd", at(9, 9), "x", true, 1, "ab|cdx", at(1, 2)},
		{"ab|cd", at(-1, -9), "x", true, 1, "axb|cd", at(0, 1)},
		{"ab|cd", at(math.MaxInt, math.MinInt), "x", false, 1, "ab|xcd", at(1, 0)},
		{"ab|cd", at(math.MinInt, math.MaxInt), "x", true, 1, "abx|cd", at(0, 2)},
		// nothing to put
		{"abc", at(0, 1), "", true, 1, "abc", at(0, 1)},
		{"abc", at(0, 2), "", true, 5, "abc", at(0, 2)},
		{"abc", at(0, 9), "", false, 5, "abc", at(0, 2)},
		{"abc|", at(1, 3), "", true, math.MaxInt, "abc|", at(1, 0)},
		// several lines
		{"abc", at(0, 1), "x|y", true, 1, "abx|yc", at(0, 2)},
		{"abc", at(0, 1), "x|y", false, 1, "ax|ybc", at(0, 1)},
		{"abc", at(0, 1), "x|y", true, 2, "abx|yx|yc", at(0, 2)},
		{"abc", at(0, 1), "x|yz|w", false, 2, "ax|yz|wx|yz|wbc", at(0, 1)},
		{"abc", at(0, 1), "|", false, 1, "a|bc", at(0, 0)},
		{"abc", at(0, 1), "|", true, 3, "ab|||c", at(0, 1)},
		{"abc", at(0, 2), "|", true, 1, "abc|", at(0, 2)},
		{"abc", at(0, 0), "|", false, 1, "|abc", at(0, 0)},
		{"abc", at(0, 0), "x|", false, 2, "x|x|abc", at(0, 0)},
		{"abc", at(0, 0), "|x", true, 2, "a|x|xbc", at(0, 0)},
		{"p|abc|q", at(1, 2), "x||y", true, 1, "p|abcx||y|q", at(1, 3)},
		{"", at(0, 0), "x|y", true, 1, "x|y", at(0, 0)},
		{"", at(0, 0), "|", true, 2, "||", at(0, 0)},
		// tabs, wide runes and combining ones are runes as others
		{"\t界e\u0301", at(0, 2), "界\u0301", true, 1, "\t界e界\u0301\u0301", at(0, 4)},
	})
}

func TestPasteLines(t *testing.T) {
	wantPasted(t, whole, []paste{
		{"a|b|c", at(1, 0), "x", true, 1, "a|b|x|c", at(2, 0)},
		{"a|b|c", at(1, 0), "x", false, 1, "a|x|b|c", at(1, 0)},
		{"a|b|c", at(2, 0), "x", true, 1, "a|b|c|x", at(3, 0)},
		{"a|b|c", at(0, 0), "x", false, 1, "x|a|b|c", at(0, 0)},
		{"a|b|c", at(0, 0), "x|y", true, 2, "a|x|y|x|y|b|c", at(1, 0)},
		{"a|b", at(1, 0), "  x|y", true, 1, "a|b|  x|y", at(2, 2)},
		{"a|b", at(0, 0), "\t \tx", false, 1, "\t \tx|a|b", at(0, 3)},
		{"a", at(0, 0), " \t", true, 1, "a| \t", at(1, 1)},
		{"a", at(0, 0), "", true, 1, "a|", at(1, 0)},
		{"a", at(0, 0), "", false, 3, "|||a", at(0, 0)},
		{"a", at(0, 0), "||x", true, 1, "a|||x", at(1, 0)},
		{"", at(0, 0), "x", true, 1, "|x", at(1, 0)},
		{"", at(0, 0), "x", false, 1, "x|", at(0, 0)},
		{"abc|d", at(9, 0), "x", true, 0, "abc|d|x", at(2, 0)},
		{"abc|d", at(9, 0), "x", false, -1, "abc|x|d", at(1, 0)},
		{"abc|d", at(-9, 9), "x", true, math.MinInt, "abc|x|d", at(1, 0)},
		{"abc|d", at(0, 2), " x", true, 1, "abc| x|d", at(1, 1)},
		{"a|b", at(math.MaxInt, math.MaxInt), "x", true, 1, "a|b|x", at(2, 0)},
	})
}

func TestPasteBlocks(t *testing.T) {
	wantPasted(t, block, []paste{
		{"abc|def", at(0, 1), "x|y", false, 1, "axbc|dyef", at(0, 1)},
		{"abc|def", at(0, 1), "x|y", true, 1, "abxc|deyf", at(0, 2)},
		{"abc|def", at(0, 1), "x|y", true, 3, "abxxxc|deyyyf", at(0, 2)},
		{"abc|def", at(0, 2), "x|y", true, 1, "abcx|defy", at(0, 3)},
		// each as wide as the widest
		{"abc|def", at(0, 0), "xy|z", false, 1, "xyabc|z def", at(0, 0)},
		{"abc|def", at(0, 0), "x|yz", true, 2, "ax x bc|dyzyzef", at(0, 1)},
		{"abc|def", at(0, 2), "x|yz", true, 1, "abcx |defyz", at(0, 3)},
		{"abc|def|ghi", at(0, 0), "|xy|", false, 2, "    abc|xyxydef|    ghi", at(0, 0)},
		// shorter lines are filled up to the column
		{"abcd|e||fgh", at(0, 2), "w|x|y|z", true, 1, "abcwd|e  x|   y|fghz", at(0, 3)},
		{"abcd|e||fgh", at(0, 2), "w|x|y|z", false, 1, "abwcd|e x|  y|fgzh", at(0, 2)},
		// lines are added where there are none
		{"abc", at(0, 1), "x|y|z", true, 1, "abxc|  y|  z", at(0, 2)},
		{"abc|d", at(1, 0), "x|y", false, 2, "abc|xxd|yy", at(1, 0)},
		{"", at(0, 0), "x|yz", true, 1, "x |yz", at(0, 0)},
		{"a|", at(1, 5), "x|y", true, 1, "a|x|y", at(1, 0)},
		// one line; empty ones
		{"abc", at(0, 0), "x", true, 1, "axbc", at(0, 1)},
		{"abc", at(0, 1), "", true, 1, "abc", at(0, 2)},
		{"abc", at(0, 2), "", true, 9, "abc", at(0, 2)},
		{"abc|d", at(0, 2), "||", true, 1, "abc|d  |   ", at(0, 2)},
		{"abc|d", at(0, 2), "||", true, math.MaxInt, "abc|d  |   ", at(0, 2)},
		{"", at(0, 0), "|", true, 5, "|", at(0, 0)},
		// the place is clipped; n counts as 1
		{"abc|def", at(9, 9), "x", true, 0, "abc|defx", at(1, 3)},
		{"abc|def", at(-9, -9), "x|y", false, -1, "xabc|ydef", at(0, 0)},
		{"abc|def", at(math.MinInt, math.MaxInt), "x|y", false, math.MinInt, "abxc|deyf", at(0, 2)},
		{"\t界|e\u0301", at(0, 0), "界|\u0301", true, 1, "\t界界|e\u0301\u0301", at(0, 1)},
		{"ab|cd|ef", at(1, 0), "x", true, 1, "ab|cxd|ef", at(1, 1)},
	})
}

func TestPasteErrors(t *testing.T) {
	ten := [][]rune{{'a'}, {'b', 10, 'c'}}
	for _, x := range []struct {
		l   [][]rune
		g   api.Reg
		err api.Errno
	}{
		{lines("ab"), api.Reg{Kind: 3, Lines: lines("x")}, api.ErrArg},
		{lines("ab"), api.Reg{Kind: -1, Lines: lines("x")}, api.ErrArg},
		{lines("ab"), api.Reg{Kind: math.MaxInt, Lines: lines("x")}, api.ErrArg},
		{nil, api.Reg{Kind: math.MinInt, Lines: lines("x")}, api.ErrArg},
		{lines("ab"), api.Reg{Kind: char}, api.ErrArg},
		{lines("ab"), api.Reg{Kind: whole, Lines: [][]rune{}}, api.ErrArg},
		{nil, api.Reg{Kind: block}, api.ErrArg},
		{lines("ab"), api.Reg{Kind: char, Lines: ten}, api.ErrArg},
		{lines("ab"), api.Reg{Kind: whole, Lines: ten}, api.ErrArg},
		{nil, api.Reg{Kind: block, Lines: ten}, api.ErrArg},
		{lines("ab"), api.Reg{Kind: whole, Lines: [][]rune{{10}}}, api.ErrArg},
		{nil, api.Reg{Kind: char, Lines: lines("x")}, api.ErrRange},
		{nil, api.Reg{Kind: whole, Lines: lines("x")}, api.ErrRange},
		{[][]rune{}, api.Reg{Kind: block, Lines: lines("x")}, api.ErrRange},
	} {
		for _, n := range []int{1, 0, math.MaxInt} {
			want(t, "Paste", of(oper.Paste(x.l, at(0, 0), x.g, true, n)), none(x.err))
		}
	}
	// of 10 and no lines the first one is told, of no lines and too many runes, too
	want(t, "Paste", of(oper.Paste(nil, at(0, 0), api.Reg{Lines: lines("ab")}, false, math.MaxInt)), none(api.ErrRange))
}

// Other runes below 32 are none that end a line.
func TestPasteControls(t *testing.T) {
	wantPasted(t, char, []paste{{"a", at(0, 0), "\r\x00\x0b", true, 1, "a\r\x00\x0b", at(0, 3)}})
	wantPasted(t, block, []paste{{"a", at(0, 0), "\x09", true, 1, "a\t", at(0, 1)}})
}

// size tells how many runes lines have, the line ends between them counted.
func size(l [][]rune) int {
	return len([]rune(told(l)))
}

// long tells a line of so many runes.
func long(n int) string {
	return strings.Repeat("x", n)
}

// ErrFull: just MaxRunes runes, and one more.
func TestPasteUpToMaxRunes(t *testing.T) {
	const most = api.MaxRunes
	for _, x := range []struct {
		lines string
		p     api.Pos
		kind  int
		reg   string
		n     int // so often it stands, and there are just MaxRunes
	}{
		{long(most - 1), at(0, 0), char, "y", 1},
		{long(most - 6), at(0, 5), char, "yz", 3},
		{"", at(0, 0), char, "y", most},
		{"", at(0, 0), char, long(most / 4), 4},
		{"", at(0, 0), char, "|", most},
		{"a", at(0, 0), char, "b|c", (most - 1) / 3},
		{long(most - 1), at(0, 0), whole, "", 1},
		{long(most - 5), at(0, 0), whole, "ab|c", 1},
		{"", at(0, 0), whole, "", most},
		{"", at(0, 0), whole, "a", most / 2},
		{long(most - 1), at(0, 9), block, "y", 1},
		{"|" + long(most-5), at(0, 9), block, "yz|a", 1},
		{"", at(0, 0), block, "y", most},
		{"ab|" + long(most-11), at(0, 1), block, "yz|a", 2},
		{"|" + long(most-5), at(0, 0), block, "y||", 1},
	} {
		l, g := lines(x.lines), api.Reg{Kind: x.kind, Lines: lines(x.reg)}
		for _, behind := range []bool{true, false} {
			got, _, err := oper.Paste(l, x.p, g, behind, x.n)
			if err != api.OK || size(got) != most {
				t.Errorf("Paste(%d runes, %q of kind %d, %d): %d runes, %d", len(x.lines), x.reg[:1], x.kind, x.n, size(got), err)
			}
			for _, n := range []int{x.n + 1, 2*x.n + 1, 1 << 32, 1 << 62, 1<<62 + 1, math.MaxInt - 1, math.MaxInt} {
				want(t, "Paste once more", of(oper.Paste(l, x.p, g, behind, n)), none(api.ErrFull))
			}
			more := lines(x.lines + "x")
			want(t, "Paste with one rune more", of(oper.Paste(more, x.p, g, behind, x.n)), none(api.ErrFull))
		}
	}
}

// What fills lines up, and the line ends of those that are added, count too.
func TestPasteBlockUpToMaxRunes(t *testing.T) {
	const most = api.MaxRunes
	for _, x := range []struct {
		l    [][]rune
		p    api.Pos
		reg  string
		want int // runes
	}{
		// three line ends, so many blanks, three times y
		{[][]rune{[]rune(long(9)), nil, nil, []rune(long(most - 33))}, at(0, 9), "y|y|y", most},
		{[][]rune{[]rune(long(9)), nil, nil, []rune(long(most - 32))}, at(0, 9), "y|y|y", 0},
		{[][]rune{[]rune(long(most/2 - 1))}, at(0, most), "|", most - 1},
		{[][]rune{[]rune(long(most/2 - 1))}, at(0, most), "y|z", 0},
		{[][]rune{[]rune(long(most / 2))}, at(0, most), "|", 0},
		{[][]rune{[]rune(long(most - 2))}, at(0, -1), "y|", 0},
		{[][]rune{[]rune(long(most - 3))}, at(0, -1), "|", most - 2 + 1},
		{[][]rune{[]rune(long(most - 1))}, at(0, -1), "", most - 1},
		{[][]rune{[]rune(long(most))}, at(0, -1), "", most},
		{[][]rune{[]rune(long(most + 1))}, at(0, -1), "", 0},
	} {
		g := api.Reg{Kind: block, Lines: lines(x.reg)}
		l, _, err := oper.Paste(x.l, x.p, g, true, 1)
		if x.want == 0 {
			want(t, "Paste", of(l, api.Pos{}, err), none(api.ErrFull))
		} else if err != api.OK || size(l) != x.want {
			t.Errorf("Paste(%d runes, %q): %d runes, %d, not %d", size(x.l), x.reg, size(l), err, x.want)
		}
	}
}

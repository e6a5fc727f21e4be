package oper_test

import (
	"math"
	"slices"
	"strings"
	"testing"

	"inkhorn/api"
	"inkhorn/oper"
)

// lines tells the lines that are spelt, a bar between each two.
func lines(spelt string) [][]rune {
	var l [][]rune
	for _, line := range strings.Split(spelt, "|") {
		l = append(l, []rune(line))
	}
	return l
}

// told spells lines as lines reads them; no lines are a -.
func told(l [][]rune) string {
	if len(l) == 0 {
		return "-"
	}
	var all []string
	for _, line := range l {
		all = append(all, string(line))
	}
	return strings.Join(all, "|")
}

// at tells a place.
func at(line, col int) api.Pos {
	return api.Pos{Line: line, Col: col}
}

// region tells one by its kind, and the lines and columns of its places.
func region(kind, line, col, line2, col2 int) api.Region {
	return api.Region{From: at(line, col), To: at(line2, col2), Kind: kind}
}

// The kinds by short names.
const (
	char  = api.KindChar
	whole = api.KindLine
	block = api.KindBlock
)

// answer is what a call answers: spelt lines, a place, an error.
type answer struct {
	lines string
	pos   api.Pos
	err   api.Errno
}

// of gathers what a call answers.
func of(l [][]rune, p api.Pos, err api.Errno) answer {
	return answer{told(l), p, err}
}

// none is what is answered with an error: nothing else.
func none(err api.Errno) answer {
	return answer{"-", api.Pos{}, err}
}

// short tells an answer with no more of its text than can be read.
func (a answer) short() answer {
	if len(a.lines) > 200 {
		a.lines = a.lines[:200] + ".."
	}
	return a
}

// want fails, if something else is answered.
func want(t *testing.T, what string, got, want answer) {
	t.Helper()
	if got != want {
		t.Errorf("%s: %v, not %v", what, got.short(), want.short())
	}
}

// wantTaken fails, if Take answers something else.
func wantTaken(t *testing.T, spelt string, r api.Region, want string) {
	t.Helper()
	g, err := oper.Take(lines(spelt), r)
	if err != api.OK || g.Kind != r.Kind || told(g.Lines) != want {
		t.Errorf("Take(%q, %v): %d, %q, %d, not %q", spelt, r, g.Kind, told(g.Lines), err, want)
	}
}

// The examples of the chapter.
func TestTheExamples(t *testing.T) {
	l := lines("ab|cd")
	wantTaken(t, "ab|cd", region(char, 0, 1, 1, 0), "b|c")
	want(t, "Cut", of(oper.Cut(l, region(char, 0, 1, 1, 0))), answer{"ad", at(0, 1), api.OK})
	xy := api.Reg{Kind: char, Lines: lines("xy")}
	want(t, "Paste", of(oper.Paste(l, at(0, 0), xy, true, 2)), answer{"axyxyb|cd", at(0, 4), api.OK})
	want(t, "Join", of(oper.Join(lines("a|b"), 0, 2)), answer{"a b", at(0, 1), api.OK})
	c := oper.Diff(lines("a|b|c"), lines("a|x|c"))
	if c.At != 1 || told(c.Old) != "b" || told(c.New) != "x" {
		t.Errorf("Diff: %v", c)
	}
}

// rows are regions of each kind: what Take and what Cut answer.
var rows = []struct {
	lines string
	r     api.Region
	taken string
	cut   string
	pos   api.Pos
}{
	// of characters, in one line
	{"abcd", region(char, 0, 1, 0, 2), "bc", "ad", at(0, 1)},
	{"abcd", region(char, 0, 2, 0, 1), "bc", "ad", at(0, 1)},
	{"abcd", region(char, 0, 1, 0, 1), "b", "acd", at(0, 1)},
	{"abcd", region(char, 0, 0, 0, 3), "abcd", "", at(0, 0)},
	{"abcd", region(char, 0, 2, 0, 3), "cd", "ab", at(0, 1)},
	{"x|abcd|y", region(char, 1, 3, 1, 1), "bcd", "x|a|y", at(1, 0)},
	{"a\tb", region(char, 0, 1, 0, 1), "\t", "ab", at(0, 1)},
	{"a界e\u0301b", region(char, 0, 1, 0, 2), "界e", "a\u0301b", at(0, 1)},
	{"ae\u0301b", region(char, 0, 2, 0, 2), "\u0301", "aeb", at(0, 2)},
	// over several lines
	{"abc|def|ghi", region(char, 0, 1, 2, 1), "bc|def|gh", "ai", at(0, 1)},
	{"abc|def|ghi", region(char, 2, 1, 0, 1), "bc|def|gh", "ai", at(0, 1)},
	{"abc|def|ghi", region(char, 1, 2, 2, 0), "f|g", "abc|dehi", at(1, 2)},
	{"abc|def", region(char, 0, 2, 1, 2), "c|def", "ab", at(0, 1)},
	{"abc|def", region(char, 0, 0, 1, 2), "abc|def", "", at(0, 0)},
	{"abc||def", region(char, 0, 1, 1, 0), "bc|", "a|def", at(0, 0)},
	{"abc||def", region(char, 1, 0, 2, 0), "|d", "abc|ef", at(1, 0)},
	{"||", region(char, 0, 0, 2, 0), "||", "", at(0, 0)},
	{"a||b", region(char, 1, 0, 1, 0), "", "a||b", at(1, 0)},
	{"", region(char, 0, 0, 0, 0), "", "", at(0, 0)},
	{"a|", region(char, 0, 0, 1, 0), "a|", "", at(0, 0)},
	{"a||b", region(char, 2, 0, 0, 0), "a||b", "", at(0, 0)},
	// of lines
	{"abc|  def|ghi", region(whole, 0, 1, 0, 2), "abc", "  def|ghi", at(0, 2)},
	{"abc|  def|ghi", region(whole, 1, 1, 0, 2), "abc|  def", "ghi", at(0, 0)},
	{"abc|  def|\tghi", region(whole, 1, 0, 1, 0), "  def", "abc|\tghi", at(1, 1)},
	{"abc| \t|def", region(whole, 0, 0, 0, 0), "abc", " \t|def", at(0, 1)},
	{"  abc|def|ghi", region(whole, 1, 2, 2, 0), "def|ghi", "  abc", at(0, 2)},
	{"a||", region(whole, 0, 0, 1, 0), "a|", "", at(0, 0)},
	{"abc|def", region(whole, 0, 2, 1, 0), "abc|def", "", at(0, 0)},
	{"abc", region(whole, 0, 1, 0, 1), "abc", "", at(0, 0)},
	{"", region(whole, 0, 0, 0, 0), "", "", at(0, 0)},
	{" a|b", region(whole, 1, 0, 1, 0), "b", " a", at(0, 1)},
	// of a block
	{"abcd|efgh|ijkl", region(block, 0, 1, 2, 2), "bc|fg|jk", "ad|eh|il", at(0, 1)},
	{"abcd|efgh|ijkl", region(block, 2, 1, 0, 2), "bc|fg|jk", "ad|eh|il", at(0, 1)},
	{"abcd|efgh|ijkl", region(block, 0, 2, 2, 1), "bc|fg|jk", "ad|eh|il", at(0, 1)},
	{"abcd|efgh|ijkl", region(block, 1, 3, 2, 3), "h|l", "abcd|efg|ijk", at(1, 2)},
	{"abcd|e||fg|hijkl", region(block, 0, 1, 4, 3), "bcd|||g|ijk", "a|e||f|hl", at(0, 0)},
	{"abcd||ef", region(block, 1, 0, 0, 2), "abc|", "d||ef", at(0, 0)},
	{"|abcd|", region(block, 0, 0, 2, 0), "|a|", "|bcd|", at(0, 0)},
	{"abcd|", region(block, 0, 2, 1, 0), "abc|", "d|", at(0, 0)},
	{"abc", region(block, 0, 2, 0, 0), "abc", "", at(0, 0)},
	{"", region(block, 0, 0, 0, 0), "", "", at(0, 0)},
	{"a|bcd|e", region(block, 0, 0, 1, 2), "a|bcd", "||e", at(0, 0)},
	{"\t界e\u0301|xyz", region(block, 0, 1, 1, 2), "界e|yz", "\t\u0301|x", at(0, 1)},
}

// 13.1: Take and Cut

func TestTakeAndCut(t *testing.T) {
	for _, x := range rows {
		wantTaken(t, x.lines, x.r, x.taken)
		got := of(oper.Cut(lines(x.lines), x.r))
		if (got != answer{x.cut, x.pos, api.OK}) {
			t.Errorf("Cut(%q, %v): %v, not %q, %v", x.lines, x.r, got, x.cut, x.pos)
		}
	}
}

// Where a region is not there, Take, Cut and Turn answer the same error, and nothing else.
func TestRegionsThatAreNotThere(t *testing.T) {
	least, most := math.MinInt, math.MaxInt
	for _, x := range []struct {
		l   [][]rune
		r   api.Region
		err api.Errno
	}{
		{nil, region(char, 0, 0, 0, 0), api.ErrRange},
		{nil, region(whole, 0, 0, 0, 0), api.ErrRange},
		{[][]rune{}, region(block, 0, 0, 0, 0), api.ErrRange},
		{nil, region(3, 0, 0, 0, 0), api.ErrArg},
		{lines("ab|cd"), region(3, 0, 0, 1, 0), api.ErrArg},
		{lines("ab|cd"), region(-1, 0, 0, 1, 0), api.ErrArg},
		{lines("ab|cd"), region(most, 9, 0, 1, 0), api.ErrArg},
		{lines("ab|cd"), region(least, 0, 9, 1, 0), api.ErrArg},
		{lines("ab|cd"), region(char, 0, 2, 1, 0), api.ErrRange},
		{lines("ab|cd"), region(char, 0, 0, 1, 2), api.ErrRange},
		{lines("ab|cd"), region(whole, 0, 2, 1, 0), api.ErrRange},
		{lines("ab|cd"), region(whole, 0, 0, 1, 2), api.ErrRange},
		{lines("ab|cd"), region(block, 0, 2, 1, 0), api.ErrRange},
		{lines("ab|cd"), region(block, 0, 0, 1, 2), api.ErrRange},
		{lines("ab|cd"), region(char, 0, -1, 1, 0), api.ErrRange},
		{lines("ab|cd"), region(char, -1, 0, 1, 0), api.ErrRange},
		{lines("ab|cd"), region(whole, 0, 0, 2, 0), api.ErrRange},
		{lines("ab|cd"), region(whole, 2, 0, 0, 0), api.ErrRange},
		{lines("ab|cd"), region(whole, 0, 0, -1, 0), api.ErrRange},
		{lines("|"), region(char, 0, 1, 1, 0), api.ErrRange},
		{lines("|"), region(block, 0, 0, 1, 1), api.ErrRange},
		{lines("ab|cd"), region(char, least, least, most, most), api.ErrRange},
		{lines("ab|cd"), region(block, most, most, least, least), api.ErrRange},
		{lines("ab|cd"), region(block, 0, most, 1, most), api.ErrRange},
	} {
		g, err := oper.Take(x.l, x.r)
		if err != x.err || g.Kind != 0 || len(g.Lines) != 0 {
			t.Errorf("Take(%v, %v): %v, %d, not %d alone", x.l, x.r, g, err, x.err)
		}
		want(t, "Cut", of(oper.Cut(x.l, x.r)), none(x.err))
		for _, how := range "~uU" {
			l, err := oper.Turn(x.l, x.r, how)
			want(t, "Turn", of(l, api.Pos{}, err), none(x.err))
		}
	}
}

// 13.3: Turn

func TestTurn(t *testing.T) {
	for _, x := range []struct {
		lines              string
		r                  api.Region
		other, small, capt string
	}{
		{"aBcD", region(char, 0, 1, 0, 2), "abCD", "abcD", "aBCD"},
		{"aBcD", region(char, 0, 3, 0, 0), "AbCd", "abcd", "ABCD"},
		{"aB|cD|eF", region(char, 0, 1, 2, 0), "ab|Cd|EF", "ab|cd|eF", "aB|CD|EF"},
		{"aB|cD|eF", region(char, 2, 0, 0, 1), "ab|Cd|EF", "ab|cd|eF", "aB|CD|EF"},
		{"aB||cD", region(char, 1, 0, 2, 0), "aB||CD", "aB||cD", "aB||CD"},
		{"aB||cD", region(char, 0, 0, 1, 0), "Ab||cD", "ab||cD", "AB||cD"},
		{"aB|cD|eF", region(whole, 1, 1, 1, 1), "aB|Cd|eF", "aB|cd|eF", "aB|CD|eF"},
		{"aB|cD|eF", region(whole, 2, 0, 1, 1), "aB|Cd|Ef", "aB|cd|ef", "aB|CD|EF"},
		{"aBcD|e||FgHi", region(block, 0, 2, 3, 1), "abCD|e||FGhi", "abcD|e||Fghi", "aBCD|e||FGHi"},
		{"", region(char, 0, 0, 0, 0), "", "", ""},
		{"@[`{AZaz", region(whole, 0, 0, 0, 0), "@[`{azAZ", "@[`{azaz", "@[`{AZAZ"},
		{"äÄ1 \t界e\u0301ſ", region(whole, 0, 0, 0, 0), "äÄ1 \t界E\u0301ſ", "äÄ1 \t界e\u0301ſ", "äÄ1 \t界E\u0301ſ"},
	} {
		for how, want := range map[rune]string{'~': x.other, 'u': x.small, 'U': x.capt} {
			l, err := oper.Turn(lines(x.lines), x.r, how)
			if err != api.OK || told(l) != want {
				t.Errorf("Turn(%q, %v, %c): %q, %d, not %q", x.lines, x.r, how, told(l), err, want)
			}
		}
	}
}

func TestTurnEachLetter(t *testing.T) {
	small, capital := "abcdefghijklmnopqrstuvwxyz", "ABCDEFGHIJKLMNOPQRSTUVWXYZ"
	l := lines(small + "|" + capital)
	r := region(whole, 0, 0, 1, 0)
	for how, want := range map[rune]string{'~': capital + "|" + small, 'u': small + "|" + small, 'U': capital + "|" + capital} {
		if got, err := oper.Turn(l, r, how); err != api.OK || told(got) != want {
			t.Errorf("Turn by %c: %q, %d", how, told(got), err)
		}
	}
}

func TestTurnNeedsAHow(t *testing.T) {
	for _, how := range []rune{0, 'a', 't', 'v', 'T', 'V', '}', '`', ' ', 10, -1, math.MaxInt32, math.MinInt32} {
		for _, x := range [][][]rune{lines("aB"), nil} {
			l, err := oper.Turn(x, region(char, 0, 0, 0, 0), how)
			want(t, "Turn", of(l, api.Pos{}, err), none(api.ErrArg))
		}
	}
}

// 13.3: Shift

func TestShift(t *testing.T) {
	wide := strings.Repeat(" ", 64)
	for _, x := range []struct {
		lines        string
		from, to, by int
		want         string
	}{
		{"a|b|c", 0, 0, 1, " a|b|c"},
		{"a|b|c", 1, 2, 2, "a|  b|  c"},
		{"a|b|c", 2, 2, 3, "a|b|   c"},
		{"a||c", 0, 2, 1, " a|| c"},
		{"| |\t", 0, 2, 2, "|   |  \t"},
		{"a", 0, 0, 64, wide + "a"},
		{wide + "  a", 0, 0, -64, "  a"},
		{wide + "a", 0, 0, -64, "a"},
		{"  a", 0, 0, -64, "a"},
		{"  a|b", 0, 1, 0, "  a|b"},
		{"   a|  b| c|d", 0, 3, -2, " a|b|c|d"},
		{" \t a|\t\tb|\t c", 0, 2, -2, " a|b|c"},
		{" \t |  |\t|", 0, 3, -2, " |||"},
		{"    a|    b", 1, 1, -1, "    a|   b"},
		{"a  b", 0, 0, -3, "a  b"},
		{"\u00a0a|\u3000b", 0, 1, -1, "\u00a0a|\u3000b"},
		{"\u0301a|界", 0, 1, 1, " \u0301a| 界"},
		{"", 0, 0, 5, ""},
		{"", 0, 0, -5, ""},
	} {
		l, err := oper.Shift(lines(x.lines), x.from, x.to, x.by)
		if err != api.OK || told(l) != x.want {
			t.Errorf("Shift(%q, %d, %d, %d): %q, %d, not %q", x.lines, x.from, x.to, x.by, told(l), err, x.want)
		}
	}
}

func TestShiftErrors(t *testing.T) {
	least, most := math.MinInt, math.MaxInt
	for _, x := range []struct {
		l            [][]rune
		from, to, by int
		err          api.Errno
	}{
		{lines("a|b"), 0, 1, 65, api.ErrArg},
		{lines("a|b"), 0, 1, -65, api.ErrArg},
		{lines("a|b"), 0, 1, most, api.ErrArg},
		{lines("a|b"), 0, 1, least, api.ErrArg},
		{lines("a|b"), 5, 1, 65, api.ErrArg},
		{nil, 0, 0, -65, api.ErrArg},
		{nil, 0, 0, 1, api.ErrRange},
		{lines("a|b"), -1, 1, 1, api.ErrRange},
		{lines("a|b"), -1, -1, 1, api.ErrRange},
		{lines("a|b"), 1, 0, 1, api.ErrRange},
		{lines("a|b"), 0, 2, 1, api.ErrRange},
		{lines("a|b"), 2, 2, 1, api.ErrRange},
		{lines("a|b"), least, most, 1, api.ErrRange},
		{lines("a|b"), most, least, 1, api.ErrRange},
		{lines("a|b"), 0, most, 0, api.ErrRange},
		{lines("a|b"), most, most, 0, api.ErrRange},
	} {
		l, err := oper.Shift(x.l, x.from, x.to, x.by)
		want(t, "Shift", of(l, api.Pos{}, err), none(x.err))
	}
}

// 13.4: Join

func TestJoin(t *testing.T) {
	for _, x := range []struct {
		lines string
		at, n int
		want  string
		pos   api.Pos
	}{
		{"a|b|c", 0, 2, "a b|c", at(0, 1)},
		{"a|b|c", 1, 2, "a|b c", at(1, 1)},
		{"a|b|c", 0, 3, "a b c", at(0, 3)},
		{"ab|  \tcd", 0, 2, "ab cd", at(0, 2)},
		{"  ab|cd", 0, 2, "  ab cd", at(0, 4)},
		{"ab |cd", 0, 2, "ab cd", at(0, 3)},
		{"ab\t|cd", 0, 2, "ab\tcd", at(0, 3)},
		{"ab  |  cd", 0, 2, "ab  cd", at(0, 4)},
		{"ab|)cd", 0, 2, "ab)cd", at(0, 2)},
		{"ab| \t)", 0, 2, "ab)", at(0, 2)},
		{"f(|a|)|b", 0, 4, "f( a) b", at(0, 5)},
		{"ab|]", 0, 2, "ab ]", at(0, 2)},
		{"|b", 0, 2, "b", at(0, 0)},
		{"| \tb", 0, 2, "b", at(0, 0)},
		{"|)", 0, 2, ")", at(0, 0)},
		{"a|", 0, 2, "a", at(0, 0)},
		{"abc|", 0, 2, "abc", at(0, 2)},
		{"abc| \t ", 0, 2, "abc", at(0, 2)},
		{"a||b", 0, 3, "a b", at(0, 1)},
		{"|", 0, 2, "", at(0, 0)},
		{"||", 0, 3, "", at(0, 0)},
		{"| |a", 0, 3, "a", at(0, 0)},
		{" |a", 0, 2, " a", at(0, 1)},
		{" | ", 0, 2, " ", at(0, 0)},
		{"a|b  |c", 0, 3, "a b  c", at(0, 5)},
		{"a|b|c|d", 1, 3, "a|b c d", at(1, 3)},
		{"a|b|c", 0, 1, "a b|c", at(0, 1)},
		{"a|b|c", 0, 0, "a b|c", at(0, 1)},
		{"a|b|c", 0, -5, "a b|c", at(0, 1)},
		{"a|b|c", 1, math.MinInt, "a|b c", at(1, 1)},
		{"e\u0301|\u0301界", 0, 2, "e\u0301 \u0301界", at(0, 2)},
		{"a\u00a0|\u00a0b", 0, 2, "a\u00a0 \u00a0b", at(0, 2)},
	} {
		got := of(oper.Join(lines(x.lines), x.at, x.n))
		if (got != answer{x.want, x.pos, api.OK}) {
			t.Errorf("Join(%q, %d, %d): %v, not %q, %v", x.lines, x.at, x.n, got, x.want, x.pos)
		}
	}
}

func TestJoinNeedsTheLines(t *testing.T) {
	l := lines("a|b|c")
	for _, x := range []struct{ at, n int }{
		{2, 2}, {2, 0}, {1, 3}, {0, 4}, {-1, 2}, {-1, 5}, {-2, 2}, {3, 2}, {4, 0},
		{0, math.MaxInt}, {math.MaxInt, math.MaxInt}, {math.MinInt, math.MaxInt}, {math.MaxInt, 2}, {math.MinInt, 2},
	} {
		want(t, "Join", of(oper.Join(l, x.at, x.n)), none(api.ErrRange))
	}
	want(t, "Join of no lines", of(oper.Join(nil, 0, 0)), none(api.ErrRange))
	want(t, "Join of one line", of(oper.Join(lines("a"), 0, 0)), none(api.ErrRange))
}

// 13.4: Over

func TestOver(t *testing.T) {
	for _, x := range []struct {
		lines string
		p     api.Pos
		r     rune
		n     int
		want  string
		pos   api.Pos
	}{
		{"abcd", at(0, 1), 'x', 1, "axcd", at(0, 1)},
		{"abcd", at(0, 1), 'x', 2, "axxd", at(0, 2)},
		{"abcd", at(0, 1), 'x', 3, "axxx", at(0, 3)},
		{"abcd", at(0, 0), 'x', 4, "xxxx", at(0, 3)},
		{"abcd", at(0, 3), 'x', 1, "abcx", at(0, 3)},
		{"abcd", at(0, 3), 'x', 0, "abcx", at(0, 3)},
		{"abcd", at(0, 0), 'x', -7, "xbcd", at(0, 0)},
		{"abcd", at(0, 0), 'x', math.MinInt, "xbcd", at(0, 0)},
		{"ab|cd", at(1, 9), 'x', 1, "ab|cx", at(1, 1)},
		{"ab|cd", at(9, 0), 'x', 2, "ab|xx", at(1, 1)},
		{"ab|cd", at(-1, -1), 'x', 1, "xb|cd", at(0, 0)},
		{"ab|cd", at(math.MaxInt, math.MaxInt), 'x', 1, "ab|cx", at(1, 1)},
		{"ab|cd", at(math.MinInt, math.MinInt), 'x', 2, "xx|cd", at(0, 1)},
		{"a\tb", at(0, 1), '界', 1, "a界b", at(0, 1)},
		{"ab", at(0, 0), '\t', 2, "\t\t", at(0, 1)},
		{"ab", at(0, 0), 13, 1, "\rb", at(0, 0)},
		{"abcd", at(0, 1), 10, 1, "a|cd", at(1, 0)},
		{"abcd", at(0, 1), 10, 2, "a|d", at(1, 0)},
		{"abcd", at(0, 1), 10, 3, "a|", at(1, 0)},
		{"abcd", at(0, 0), 10, 4, "|", at(1, 0)},
		{"abcd", at(0, 0), 10, 0, "|bcd", at(1, 0)},
		{"x|abcd|y", at(1, 2), 10, 1, "x|ab|d|y", at(2, 0)},
		{"x|ab", at(1, 1), 10, 1, "x|a|", at(2, 0)},
		{"a  b", at(0, 1), 10, 1, "a| b", at(1, 0)},
	} {
		got := of(oper.Over(lines(x.lines), x.p, x.r, x.n))
		if (got != answer{x.want, x.pos, api.OK}) {
			t.Errorf("Over(%q, %v, %d, %d): %v, not %q, %v", x.lines, x.p, x.r, x.n, got, x.want, x.pos)
		}
	}
}

func TestOverNeedsTheRunes(t *testing.T) {
	for _, x := range []struct {
		l [][]rune
		p api.Pos
		n int
	}{
		{nil, at(0, 0), 1}, {nil, at(0, 0), 0}, {lines(""), at(0, 0), 1}, {lines(""), at(0, 0), 0}, {lines("ab||c"), at(1, 5), -1},
		{lines("abc"), at(0, 0), 4}, {lines("abc"), at(0, 2), 2}, {lines("abc"), at(0, 9), 2}, {lines("abc|def"), at(0, 1), 3},
		{lines("abc"), at(0, 0), math.MaxInt}, {lines("abc"), at(0, 2), math.MaxInt}, {lines("abc"), at(math.MinInt, math.MaxInt), math.MaxInt},
	} {
		for _, r := range []rune{'x', 10} {
			want(t, "Over", of(oper.Over(x.l, x.p, r, x.n)), none(api.ErrRange))
		}
	}
}

// A rune is put as it is, one that is no scalar, too.
func TestOverAnyRune(t *testing.T) {
	for _, r := range []rune{0, -1, 0xD800, math.MaxInt32, math.MinInt32, 9, 11} {
		l, p, err := oper.Over(lines("abc"), at(0, 1), r, 2)
		if err != api.OK || p != at(0, 2) || len(l) != 1 || !slices.Equal(l[0], []rune{'a', r, r}) {
			t.Errorf("Over by %d: %v, %v, %d", r, l, p, err)
		}
	}
}

// 13.5: Diff

func TestDiff(t *testing.T) {
	for _, x := range []struct {
		a, b     string
		at       int
		old, new string
	}{
		{"a|b|c", "a|b|c", 3, "-", "-"},
		{"", "", 1, "-", "-"},
		{"a|b|c", "x|b|c", 0, "a", "x"},
		{"a|b|c", "a|b|x", 2, "c", "x"},
		{"a|b|c", "a|c", 1, "b", "-"},
		{"a|c", "a|b|c", 1, "-", "b"},
		{"a|b", "a|b|c", 2, "-", "c"},
		{"b|c", "a|b|c", 0, "-", "a"},
		{"a|b|c", "c|b|a", 0, "a|b|c", "c|b|a"},
		{"a|b|c|d", "a|x|y|z|d", 1, "b|c", "x|y|z"},
		{"a|a", "a|a|a", 2, "-", "a"},
		{"a|a|a", "a|a", 2, "a", "-"},
		{"a|a|b", "a|b", 1, "a", "-"},
		{"a|b|b", "a|b", 2, "b", "-"},
		{"a|b|a", "a|b|a|b|a", 3, "-", "b|a"},
		{"a|b|a|b|a", "a|b|a", 3, "b|a", "-"},
		{"x|a|a|y", "x|a|y", 2, "a", "-"},
		{"", "a", 0, "", "a"},
		{"a", "", 0, "a", ""},
		{"|a", "a", 0, "", "-"},
		{"a|b", "a|B", 1, "b", "B"},
		{"ab", "a", 0, "ab", "a"},
		{"ab|c", "a|bc", 0, "ab|c", "a|bc"},
	} {
		c := oper.Diff(lines(x.a), lines(x.b))
		if c.At != x.at || told(c.Old) != x.old || told(c.New) != x.new {
			t.Errorf("Diff(%q, %q): %d, %q, %q, not %d, %q, %q", x.a, x.b, c.At, told(c.Old), told(c.New), x.at, x.old, x.new)
		}
	}
}

func TestDiffOfNoLines(t *testing.T) {
	for _, x := range []struct {
		a, b     [][]rune
		old, new string
	}{
		{nil, nil, "-", "-"}, {nil, [][]rune{}, "-", "-"},
		{nil, lines("a|b"), "-", "a|b"}, {lines("a|b"), nil, "a|b", "-"},
		{nil, lines(""), "-", ""}, {lines(""), [][]rune{}, "", "-"},
	} {
		c := oper.Diff(x.a, x.b)
		if c.At != 0 || told(c.Old) != x.old || told(c.New) != x.new {
			t.Errorf("Diff(%v, %v): %v", x.a, x.b, c)
		}
	}
	// an empty line is one, nil or not
	if c := oper.Diff([][]rune{nil, {'a'}}, [][]rune{{}, {'a'}}); c.At != 2 || len(c.Old) != 0 || len(c.New) != 0 {
		t.Errorf("Diff of empty lines: %v", c)
	}
}

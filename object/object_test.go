package object_test

import (
	"math"
	"strconv"
	"strings"
	"testing"

	"inkhorn/api"
	"inkhorn/object"
	"inkhorn/word"
)

// lines tells the lines of a string, a line end between each two.
func lines(s string) [][]rune {
	var l [][]rune
	for _, line := range strings.Split(s, "\n") {
		l = append(l, []rune(line))
	}
	return l
}

// at tells a place.
func at(line, col int) api.Pos {
	return api.Pos{Line: line, Col: col}
}

// allKeys are the keys of all objects.
const allKeys = "wWp()b[]{}B<>\"'`"

// answer is what Find tells.
type answer struct {
	from, to api.Pos
	kind     int
	ok       bool
}

// no is the answer where there is no object.
var no = answer{}

// find tells what Find does.
func find(l [][]rune, p api.Pos, key rune, around bool) answer {
	from, to, kind, ok := object.Find(l, p, key, around)
	return answer{from, to, kind, ok}
}

// spelt tells a place as text.
func spelt(p api.Pos) string {
	return strconv.Itoa(p.Line) + ":" + strconv.Itoa(p.Col)
}

// told tells an answer as text: "no", if there is no object (then all is zero); lines by their numbers, if they are whole.
func told(a answer) string {
	span := spelt(a.from) + " " + spelt(a.to)
	switch {
	case a == no:
		return "no"
	case a.ok && a.kind == api.KindChar:
		return span
	case a.ok && a.kind == api.KindLine && a.from.Col == 0 && a.to.Col == 0:
		return "lines " + strconv.Itoa(a.from.Line) + " " + strconv.Itoa(a.to.Line)
	}
	return span + " of kind " + strconv.Itoa(a.kind) + ", there: " + strconv.FormatBool(a.ok)
}

// wanted is where an object of some keys is asked for, and how its inner one and the one around it are told.
type wanted struct {
	p             api.Pos
	inner, around string
}

// wantObjects fails, if objects of a text are others, for any of the keys.
func wantObjects(t *testing.T, s, keys string, all []wanted) {
	t.Helper()
	l := lines(s)
	for _, w := range all {
		for _, key := range keys {
			if got := told(find(l, w.p, key, false)); got != w.inner {
				t.Errorf("i%c of %q at %v: %s, not %s", key, s, w.p, got, w.inner)
			}
			if got := told(find(l, w.p, key, true)); got != w.around {
				t.Errorf("a%c of %q at %v: %s, not %s", key, s, w.p, got, w.around)
			}
		}
	}
}

// 11.1: the chapter's examples

func TestTheExamples(t *testing.T) {
	wantObjects(t, "ab cd", "w", []wanted{{at(0, 1), "0:0 0:1", "0:0 0:2"}})
	wantObjects(t, "f(a b)", "(", []wanted{{at(0, 3), "0:2 0:4", "0:1 0:5"}})
	wantObjects(t, `x "y" z`, `"`, []wanted{{at(0, 0), "0:3 0:3", "0:2 0:4"}})
}

// 11.1: w, W

func TestRuns(t *testing.T) {
	wantObjects(t, "ab  c.d", "w", []wanted{
		{at(0, 0), "0:0 0:1", "0:0 0:3"}, {at(0, 1), "0:0 0:1", "0:0 0:3"}, // blanks behind
		{at(0, 2), "0:2 0:3", "0:2 0:4"}, {at(0, 3), "0:2 0:3", "0:2 0:4"}, // blanks themselves
		{at(0, 4), "0:4 0:4", "0:2 0:4"},                                   // blanks ahead alone
		{at(0, 5), "0:5 0:5", "0:5 0:5"}, {at(0, 6), "0:6 0:6", "0:6 0:6"}, // none on either side
	})
	wantObjects(t, "ab  c.d", "W", []wanted{
		{at(0, 0), "0:0 0:1", "0:0 0:3"}, {at(0, 1), "0:0 0:1", "0:0 0:3"},
		{at(0, 2), "0:2 0:3", "0:2 0:6"}, {at(0, 3), "0:2 0:3", "0:2 0:6"},
		{at(0, 4), "0:4 0:6", "0:2 0:6"}, {at(0, 5), "0:4 0:6", "0:2 0:6"}, {at(0, 6), "0:4 0:6", "0:2 0:6"},
	})
	wantObjects(t, " a b", "wW", []wanted{
		{at(0, 0), "0:0 0:0", "0:0 0:1"}, {at(0, 1), "0:1 0:1", "0:1 0:2"}, // blanks behind are taken, not those ahead
		{at(0, 2), "0:2 0:2", "0:2 0:3"}, {at(0, 3), "0:3 0:3", "0:2 0:3"},
	})
	wantObjects(t, "a \t", "wW", []wanted{
		{at(0, 0), "0:0 0:0", "0:0 0:2"}, {at(0, 1), "0:1 0:2", "no"}, {at(0, 2), "0:1 0:2", "no"}, // nothing behind the blanks
	})
	wantObjects(t, "x", "wW", []wanted{{at(0, 0), "0:0 0:0", "0:0 0:0"}})
	wantObjects(t, "\t\t..a_1\u00e9+", "w", []wanted{
		{at(0, 0), "0:0 0:1", "0:0 0:3"}, {at(0, 2), "0:2 0:3", "0:0 0:3"}, {at(0, 3), "0:2 0:3", "0:0 0:3"},
		{at(0, 4), "0:4 0:7", "0:4 0:7"}, {at(0, 7), "0:4 0:7", "0:4 0:7"}, {at(0, 8), "0:8 0:8", "0:8 0:8"},
	})
}

func TestRunsOfOneLineAlone(t *testing.T) {
	wantObjects(t, "a\nbc\n\n d \n  \ne", "wW", []wanted{
		{at(0, 0), "0:0 0:0", "0:0 0:0"}, {at(1, 1), "1:0 1:1", "1:0 1:1"},
		{at(2, 0), "no", "no"}, // an empty line
		{at(3, 0), "3:0 3:0", "3:0 3:1"}, {at(3, 1), "3:1 3:1", "3:1 3:2"}, {at(3, 2), "3:2 3:2", "no"},
		{at(4, 0), "4:0 4:1", "no"}, {at(4, 1), "4:0 4:1", "no"}, // a line of blanks alone
		{at(5, 0), "5:0 5:0", "5:0 5:0"},
	})
}

// 11.1: p

func TestBlocks(t *testing.T) {
	wantObjects(t, "a\nbc\n\n\nd\n\n e", "p", []wanted{
		{at(0, 0), "lines 0 1", "lines 0 3"}, {at(1, 1), "lines 0 1", "lines 0 3"}, // the first
		{at(2, 0), "lines 2 3", "lines 2 4"}, {at(3, 0), "lines 2 3", "lines 2 4"}, // empty ones in the middle
		{at(4, 0), "lines 4 4", "lines 4 5"}, // with empty ones ahead, too
		{at(5, 0), "lines 5 5", "lines 5 6"},
		{at(6, 0), "lines 6 6", "lines 5 6"}, {at(6, 1), "lines 6 6", "lines 5 6"}, // the last: empty ones ahead alone
	})
	wantObjects(t, "\n\na\nb\n", "p", []wanted{
		{at(0, 0), "lines 0 1", "lines 0 3"}, {at(1, 0), "lines 0 1", "lines 0 3"}, // empty ones first
		{at(2, 0), "lines 2 3", "lines 2 4"}, {at(3, 0), "lines 2 3", "lines 2 4"},
		{at(4, 0), "lines 4 4", "no"}, // empty ones last
	})
	wantObjects(t, "\n\n\na\nb", "p", []wanted{{at(3, 0), "lines 3 4", "lines 0 4"}, {at(4, 0), "lines 3 4", "lines 0 4"}})
	wantObjects(t, "a\nb", "p", []wanted{{at(0, 0), "lines 0 1", "lines 0 1"}, {at(1, 0), "lines 0 1", "lines 0 1"}})
	wantObjects(t, "a\n \nb", "p", []wanted{{at(1, 0), "lines 0 2", "lines 0 2"}}) // a line of blanks is not empty
	wantObjects(t, "\n", "p", []wanted{{at(0, 0), "lines 0 1", "no"}, {at(1, 0), "lines 0 1", "no"}})
	wantObjects(t, " ", "p", []wanted{{at(0, 0), "lines 0 0", "lines 0 0"}})
}

// 11.1: brackets

// kinds are the pairs of brackets, each with all of its keys behind.
var kinds = []string{"()()b", "[][]", "{}{}B", "<><>"}

// wantBrackets fails, if objects of a text are others for any kind of brackets: in the text it is written by ( and ). All other kinds have none, if there are no others.
func wantBrackets(t *testing.T, s string, all []wanted) {
	t.Helper()
	for _, kind := range kinds {
		other := strings.NewReplacer("(", kind[:1], ")", kind[1:2]).Replace(s)
		wantObjects(t, other, kind[2:], all)
		for _, none := range kinds {
			for _, w := range all {
				if none != kind {
					wantObjects(t, other, none[2:], []wanted{{w.p, "no", "no"}})
				}
			}
		}
	}
}

func TestBrackets(t *testing.T) {
	wantBrackets(t, "a(bcd)e", []wanted{
		{at(0, 0), "no", "no"}, {at(0, 6), "no", "no"}, // ahead of them, behind them
		{at(0, 1), "0:2 0:4", "0:1 0:5"}, {at(0, 5), "0:2 0:4", "0:1 0:5"}, // at the opening one, at the closing one
		{at(0, 2), "0:2 0:4", "0:1 0:5"}, {at(0, 3), "0:2 0:4", "0:1 0:5"}, {at(0, 4), "0:2 0:4", "0:1 0:5"}, // between
	})
	wantBrackets(t, "()", []wanted{{at(0, 0), "no", "0:0 0:1"}, {at(0, 1), "no", "0:0 0:1"}})
	wantBrackets(t, "( )", []wanted{{at(0, 0), "0:1 0:1", "0:0 0:2"}, {at(0, 1), "0:1 0:1", "0:0 0:2"}, {at(0, 2), "0:1 0:1", "0:0 0:2"}})
	wantBrackets(t, "(a)b(c)", []wanted{{at(0, 2), "0:1 0:1", "0:0 0:2"}, {at(0, 3), "no", "no"}, {at(0, 4), "0:5 0:5", "0:4 0:6"}})
}

func TestBracketsInOneAnother(t *testing.T) {
	wantBrackets(t, "(a(b)(c(d)))e", []wanted{
		{at(0, 0), "0:1 0:10", "0:0 0:11"}, {at(0, 1), "0:1 0:10", "0:0 0:11"}, {at(0, 2), "0:3 0:3", "0:2 0:4"}, {at(0, 3), "0:3 0:3", "0:2 0:4"}, {at(0, 4), "0:3 0:3", "0:2 0:4"},
		{at(0, 5), "0:6 0:9", "0:5 0:10"}, {at(0, 6), "0:6 0:9", "0:5 0:10"}, {at(0, 7), "0:8 0:8", "0:7 0:9"}, {at(0, 9), "0:8 0:8", "0:7 0:9"}, {at(0, 10), "0:6 0:9", "0:5 0:10"}, {at(0, 11), "0:1 0:10", "0:0 0:11"},
		{at(0, 12), "no", "no"},
	})
	const text = "([a{b<c)d]e}f>"
	wantObjects(t, text, "()b", []wanted{{at(0, 0), "0:1 0:6", "0:0 0:7"}, {at(0, 5), "0:1 0:6", "0:0 0:7"}, {at(0, 7), "0:1 0:6", "0:0 0:7"}, {at(0, 8), "no", "no"}, {at(0, 13), "no", "no"}})
	wantObjects(t, text, "[]", []wanted{{at(0, 0), "no", "no"}, {at(0, 1), "0:2 0:8", "0:1 0:9"}, {at(0, 7), "0:2 0:8", "0:1 0:9"}, {at(0, 9), "0:2 0:8", "0:1 0:9"}, {at(0, 10), "no", "no"}})
	wantObjects(t, text, "{}B", []wanted{{at(0, 2), "no", "no"}, {at(0, 3), "0:4 0:10", "0:3 0:11"}, {at(0, 9), "0:4 0:10", "0:3 0:11"}, {at(0, 12), "no", "no"}})
	wantObjects(t, text, "<>", []wanted{{at(0, 4), "no", "no"}, {at(0, 5), "0:6 0:12", "0:5 0:13"}, {at(0, 11), "0:6 0:12", "0:5 0:13"}, {at(0, 13), "0:6 0:12", "0:5 0:13"}})
}

func TestBracketsWithoutTheirOtherOnes(t *testing.T) {
	for _, s := range []string{"a", "(", ")", ")(", "(a", "a)", "((a", "a))", ")a(", "a)\n(b", ")\n\n("} {
		for _, p := range places(lines(s)) {
			wantBrackets(t, s, []wanted{{p, "no", "no"}})
		}
	}
	wantBrackets(t, "((a)b", []wanted{{at(0, 0), "no", "no"}, {at(0, 1), "0:2 0:2", "0:1 0:3"}, {at(0, 3), "0:2 0:2", "0:1 0:3"}, {at(0, 4), "no", "no"}})
	wantBrackets(t, "a(b))c", []wanted{{at(0, 1), "0:2 0:2", "0:1 0:3"}, {at(0, 3), "0:2 0:2", "0:1 0:3"}, {at(0, 4), "no", "no"}, {at(0, 5), "no", "no"}})
	wantBrackets(t, "(a)(b", []wanted{{at(0, 2), "0:1 0:1", "0:0 0:2"}, {at(0, 3), "no", "no"}, {at(0, 4), "no", "no"}})
}

func TestBracketsOverLines(t *testing.T) {
	wantBrackets(t, "f (a\n\nb\n c) d", []wanted{
		{at(0, 0), "no", "no"}, {at(0, 2), "0:3 3:1", "0:2 3:2"}, {at(0, 3), "0:3 3:1", "0:2 3:2"}, {at(1, 0), "0:3 3:1", "0:2 3:2"}, {at(2, 0), "0:3 3:1", "0:2 3:2"}, {at(3, 0), "0:3 3:1", "0:2 3:2"}, {at(3, 2), "0:3 3:1", "0:2 3:2"}, {at(3, 3), "no", "no"},
	})
	wantBrackets(t, "f(\nab\n)", []wanted{ // an opening one at a line's end, a closing one at a line's beginning
		{at(0, 0), "no", "no"}, {at(0, 1), "1:0 1:1", "0:1 2:0"}, {at(1, 0), "1:0 1:1", "0:1 2:0"}, {at(1, 1), "1:0 1:1", "0:1 2:0"}, {at(2, 0), "1:0 1:1", "0:1 2:0"},
	})
	wantBrackets(t, "(\na)", []wanted{{at(0, 0), "1:0 1:0", "0:0 1:1"}, {at(1, 1), "1:0 1:0", "0:0 1:1"}})
	wantBrackets(t, "(ab\n)", []wanted{{at(0, 0), "0:1 0:2", "0:0 1:0"}, {at(0, 2), "0:1 0:2", "0:0 1:0"}, {at(1, 0), "0:1 0:2", "0:0 1:0"}})
	wantBrackets(t, "(\n)", []wanted{{at(0, 0), "no", "0:0 1:0"}, {at(1, 0), "no", "0:0 1:0"}}) // nothing between
	wantBrackets(t, "a(\n)b", []wanted{{at(0, 0), "no", "no"}, {at(0, 1), "no", "0:1 1:0"}, {at(1, 0), "no", "0:1 1:0"}, {at(1, 1), "no", "no"}})
	wantBrackets(t, "(\n\n)", []wanted{{at(0, 0), "1:0 1:0", "0:0 2:0"}, {at(1, 0), "1:0 1:0", "0:0 2:0"}, {at(2, 0), "1:0 1:0", "0:0 2:0"}}) // an empty line has a place
	wantBrackets(t, "(\n\n\n)", []wanted{{at(2, 0), "1:0 2:0", "0:0 3:0"}})
	wantBrackets(t, "(\n\na)", []wanted{{at(1, 0), "1:0 2:0", "0:0 2:1"}})
	wantBrackets(t, "(a\n\n)", []wanted{{at(1, 0), "0:1 1:0", "0:0 2:0"}})
	wantBrackets(t, "a (\n b (c\n)\nd ()\n e) f", []wanted{
		{at(0, 0), "no", "no"}, {at(0, 2), "1:0 4:1", "0:2 4:2"}, {at(1, 0), "1:0 4:1", "0:2 4:2"}, {at(1, 3), "1:4 1:4", "1:3 2:0"}, {at(2, 0), "1:4 1:4", "1:3 2:0"},
		{at(3, 0), "1:0 4:1", "0:2 4:2"}, {at(3, 2), "no", "3:2 3:3"}, {at(3, 3), "no", "3:2 3:3"}, {at(4, 0), "1:0 4:1", "0:2 4:2"}, {at(4, 4), "no", "no"},
	})
}

// 11.1: quotes

// wantQuotes fails, if objects of a text are others for any kind of quotes: in the text it is written by ". All other kinds have none.
func wantQuotes(t *testing.T, s string, all []wanted) {
	t.Helper()
	for _, quote := range []string{`"`, "'", "`"} {
		other := strings.ReplaceAll(s, `"`, quote)
		wantObjects(t, other, quote, all)
		for _, w := range all {
			wantObjects(t, other, strings.ReplaceAll("\"'`", quote, ""), []wanted{{w.p, "no", "no"}})
		}
	}
}

func TestQuotes(t *testing.T) {
	wantQuotes(t, `a "bc" d "e" f`, []wanted{
		{at(0, 0), "0:3 0:4", "0:2 0:5"},                                                                     // ahead of the first pair
		{at(0, 2), "0:3 0:4", "0:2 0:5"}, {at(0, 5), "0:3 0:4", "0:2 0:5"}, {at(0, 4), "0:3 0:4", "0:2 0:5"}, // on a quote, in a pair
		{at(0, 6), "0:10 0:10", "0:9 0:11"}, {at(0, 8), "0:10 0:10", "0:9 0:11"}, // between two
		{at(0, 9), "0:10 0:10", "0:9 0:11"}, {at(0, 10), "0:10 0:10", "0:9 0:11"}, {at(0, 11), "0:10 0:10", "0:9 0:11"},
		{at(0, 12), "no", "no"}, {at(0, 13), "no", "no"}, // behind the last one
	})
	wantQuotes(t, `"a"b"c`, []wanted{{at(0, 0), "0:1 0:1", "0:0 0:2"}, {at(0, 2), "0:1 0:1", "0:0 0:2"}, {at(0, 3), "no", "no"}, {at(0, 4), "no", "no"}, {at(0, 5), "no", "no"}}) // an odd number
	wantQuotes(t, `a ""b`, []wanted{{at(0, 0), "no", "0:2 0:3"}, {at(0, 2), "no", "0:2 0:3"}, {at(0, 3), "no", "0:2 0:3"}, {at(0, 4), "no", "no"}})                               // nothing between
	wantQuotes(t, `""""`, []wanted{{at(0, 1), "no", "0:0 0:1"}, {at(0, 2), "no", "0:2 0:3"}, {at(0, 3), "no", "0:2 0:3"}})
	wantQuotes(t, `" "`, []wanted{{at(0, 1), "0:1 0:1", "0:0 0:2"}})
	wantQuotes(t, `"`, []wanted{{at(0, 0), "no", "no"}})
	wantQuotes(t, `a\"b"c"`, []wanted{{at(0, 0), "0:3 0:3", "0:2 0:4"}, {at(0, 5), "no", "no"}}) // no rune ahead of a quote makes it none
}

func TestQuotesOfOneLineAlone(t *testing.T) {
	wantQuotes(t, "a \"b\nc\" \"d\n\n\"", []wanted{
		{at(0, 0), "no", "no"}, {at(0, 3), "no", "no"}, {at(1, 0), "1:2 1:2", "1:1 1:3"}, {at(1, 3), "1:2 1:2", "1:1 1:3"}, {at(1, 4), "no", "no"}, {at(2, 0), "no", "no"}, {at(3, 0), "no", "no"},
	})
}

func TestQuotesOfEachKindAmongOthers(t *testing.T) {
	const text = "\"a'b`c\"d'e`f"
	wantObjects(t, text, `"`, []wanted{{at(0, 0), "0:1 0:5", "0:0 0:6"}, {at(0, 6), "0:1 0:5", "0:0 0:6"}, {at(0, 7), "no", "no"}})
	wantObjects(t, text, `'`, []wanted{{at(0, 0), "0:3 0:7", "0:2 0:8"}, {at(0, 8), "0:3 0:7", "0:2 0:8"}, {at(0, 9), "no", "no"}})
	wantObjects(t, text, "`", []wanted{{at(0, 0), "0:5 0:9", "0:4 0:10"}, {at(0, 10), "0:5 0:9", "0:4 0:10"}, {at(0, 11), "no", "no"}})
}

// 11.1: no lines, an empty line, a line of blanks

func TestNoLines(t *testing.T) {
	for _, l := range [][][]rune{nil, {}} {
		for _, p := range []api.Pos{at(0, 0), at(3, 7), at(-1, -5), at(math.MaxInt, math.MinInt)} {
			for _, key := range allKeys + "x" {
				for _, around := range []bool{false, true} {
					if got := find(l, p, key, around); got != no {
						t.Errorf("%c of no lines at %v (around: %v): %v", key, p, around, got)
					}
				}
			}
		}
	}
}

func TestOneEmptyLine(t *testing.T) {
	for _, l := range [][][]rune{{nil}, {{}}} {
		for _, key := range allKeys {
			want := no
			if key == 'p' {
				want = answer{kind: api.KindLine, ok: true}
			}
			if got := find(l, at(0, 0), key, false); got != want {
				t.Errorf("i%c of one empty line: %v, not %v", key, got, want)
			}
			if got := find(l, at(0, 0), key, true); got != no {
				t.Errorf("a%c of one empty line: %v", key, got)
			}
		}
	}
}

func TestALineOfBlanksAlone(t *testing.T) {
	wantObjects(t, " \t ", "wW", []wanted{{at(0, 0), "0:0 0:2", "no"}, {at(0, 2), "0:0 0:2", "no"}})
	wantObjects(t, " \t ", "p", []wanted{{at(0, 1), "lines 0 0", "lines 0 0"}})
	wantObjects(t, " \t ", "()b[]{}B<>\"'`", []wanted{{at(0, 0), "no", "no"}, {at(0, 2), "no", "no"}})
}

// 11.1: p is clipped first

func TestPlacesAreClippedFirst(t *testing.T) {
	far := []int{math.MinInt, math.MinInt + 1, -1000, -1, 0, 1, 2, 3, 4, 5, 6, 7, 1000, math.MaxInt - 1, math.MaxInt}
	for _, s := range []string{"", " ", "\n", "a(b) ab\n\n  d 'b'\n", "\"x\"\n{C.\n\n\nb}! <e>"} {
		l := lines(s)
		for _, line := range far {
			for _, col := range far {
				for _, key := range allKeys + "x" {
					for _, around := range []bool{false, true} {
						p := at(line, col)
						if got, want := find(l, p, key, around), find(l, word.Clip(l, p), key, around); got != want {
							t.Errorf("%c of %q at %v (around: %v): %v, but where it is clipped %v", key, s, p, around, got, want)
						}
					}
				}
			}
		}
	}
	const text = "(a) b\n\nc 'd'"
	wantObjects(t, text, "w", []wanted{{at(-1, 1), "0:1 0:1", "0:1 0:1"}, {at(0, 9), "0:4 0:4", "0:3 0:4"}, {at(0, -1), "0:0 0:0", "0:0 0:0"}, {at(9, 0), "2:0 2:0", "2:0 2:1"}, {at(math.MinInt, math.MaxInt), "0:4 0:4", "0:3 0:4"}, {at(1, 9), "no", "no"}})
	wantObjects(t, text, "p", []wanted{{at(-9, 0), "lines 0 0", "lines 0 1"}, {at(9, 9), "lines 2 2", "lines 1 2"}, {at(1, math.MinInt), "lines 1 1", "lines 1 2"}})
	wantObjects(t, text, "(", []wanted{{at(-1, -1), "0:1 0:1", "0:0 0:2"}, {at(0, 9), "no", "no"}, {at(math.MinInt, 2), "0:1 0:1", "0:0 0:2"}})
	wantObjects(t, text, "'", []wanted{{at(math.MaxInt, math.MaxInt), "2:3 2:3", "2:2 2:4"}, {at(3, -1), "2:3 2:3", "2:2 2:4"}, {at(-1, 9), "no", "no"}})
}

// 11.1: keys of no object

func TestOtherKeys(t *testing.T) {
	l := lines("a (b) [c] {d} <e> \"f\" 'g' `h`")
	keys := []rune{math.MinInt32, 'w' - 1<<8, 'p' + 1<<16, '(' + 1<<24, 0xD800, 0xFFFD, 0x10FFFF, math.MaxInt32}
	for key := rune(-300); key < 0x3000; key++ {
		if key <= 0 || !strings.ContainsRune(allKeys, key) {
			keys = append(keys, key)
		}
	}
	for _, key := range keys {
		for _, p := range []api.Pos{at(0, 0), at(0, 3), at(0, 9)} {
			for _, around := range []bool{false, true} {
				if got := find(l, p, key, around); got != no {
					t.Errorf("the key %#x at %v (around: %v): %v", key, p, around, got)
				}
			}
		}
	}
}

// 11.1: lines of any runes

func TestAnyRunes(t *testing.T) {
	l := [][]rune{{'(', -1, math.MinInt32, ' ', 10, 0x10FFFF, math.MaxInt32, ')', '"', 0xD800, '"'}, {0}}
	for _, w := range []struct {
		p      api.Pos
		key    rune
		around bool
		want   answer
	}{
		{at(0, 1), 'w', false, answer{at(0, 0), at(0, 2), api.KindChar, true}}, {at(0, 1), 'w', true, answer{at(0, 0), at(0, 3), api.KindChar, true}},
		{at(0, 4), 'W', false, answer{at(0, 4), at(0, 10), api.KindChar, true}}, {at(0, 4), 'W', true, answer{at(0, 3), at(0, 10), api.KindChar, true}},
		{at(0, 5), 'b', false, answer{at(0, 1), at(0, 6), api.KindChar, true}}, {at(0, 0), '"', false, answer{at(0, 9), at(0, 9), api.KindChar, true}},
		{at(1, 0), 'w', true, answer{at(1, 0), at(1, 0), api.KindChar, true}}, {at(1, 0), 'p', false, answer{at(0, 0), at(1, 0), api.KindLine, true}},
	} {
		if got := find(l, w.p, w.key, w.around); got != w.want {
			t.Errorf("%c at %v (around: %v): %v, not %v", w.key, w.p, w.around, got, w.want)
		}
	}
}

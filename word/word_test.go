package word_test

import (
	"math"
	"slices"
	"strconv"
	"strings"
	"testing"

	"inkhorn/api"
	"inkhorn/word"
)

// lines tells the lines of a string, a line end between each two; of the string "none", none.
func lines(s string) [][]rune {
	if s == "none" {
		return nil
	}
	var l [][]rune
	for _, line := range strings.Split(s, "\n") {
		l = append(l, []rune(line))
	}
	return l
}

// at tells a place.
func at(line, col int) api.Pos {
	return api.Pos{Line: line, Col: col}
}

// told tells places as a text.
func told(places []api.Pos) string {
	var s []string
	for _, p := range places {
		s = append(s, strconv.Itoa(p.Line)+":"+strconv.Itoa(p.Col))
	}
	return strings.Join(s, " ")
}

// call is one of the calls that lead from a place to another one, with its name.
type call struct {
	name string
	of   func(l [][]rune, p api.Pos) api.Pos
}

// words tells a call with its big.
func words(name string, of func([][]rune, api.Pos, bool) api.Pos, big bool) call {
	if big {
		name += " (big)"
	}
	return call{name, func(l [][]rune, p api.Pos) api.Pos { return of(l, p, big) }}
}

var (
	next     = words("Next", word.Next, false)
	nextBig  = words("Next", word.Next, true)
	prev     = words("Prev", word.Prev, false)
	prevBig  = words("Prev", word.Prev, true)
	end      = words("End", word.End, false)
	endBig   = words("End", word.End, true)
	paraNext = call{"ParaNext", word.ParaNext}
	paraPrev = call{"ParaPrev", word.ParaPrev}
	sentNext = call{"SentNext", word.SentNext}
	sentPrev = call{"SentPrev", word.SentPrev}

	forward  = []call{next, nextBig, end, endBig, paraNext, sentNext}
	backward = []call{prev, prevBig, paraPrev, sentPrev}
	calls    = append(slices.Clone(forward), backward...)
)

// way tells the places to which a call leads from p on, again and again, till it doesn't move.
func way(l [][]rune, p api.Pos, c call) []api.Pos {
	var places []api.Pos
	for {
		q := c.of(l, p)
		if q == p {
			return places
		}
		places = append(places, q)
		p = q
	}
}

// step is a call's text and place, and where it leads.
type step struct {
	s       string
	p, want api.Pos
}

// wantSteps fails, if a call leads elsewhere.
func wantSteps(t *testing.T, c call, l []step) {
	t.Helper()
	for _, w := range l {
		if got := c.of(lines(w.s), w.p); got != w.want {
			t.Errorf("%s of %q from %v is %v, not %v", c.name, w.s, w.p, got, w.want)
		}
	}
}

// wantWays fails, if a call, from the first place on or back from the last one, leads by other places. Each two texts are lines and the places.
func wantWays(t *testing.T, c call, back bool, texts ...string) {
	t.Helper()
	for pair := range slices.Chunk(texts, 2) {
		l, p := lines(pair[0]), api.Pos{}
		if back {
			p = word.Last(l)
		}
		if got := told(way(l, p, c)); got != pair[1] {
			t.Errorf("%s goes through %q by %q, not %q", c.name, pair[0], got, pair[1])
		}
	}
}

// 9.1: classes

func TestClass(t *testing.T) {
	const words = "0123456789ABCDEFGHIJKLMNOPQRSTUVWXYZ_abcdefghijklmnopqrstuvwxyz"
	for r := rune(-300); r < 0x1000; r++ {
		want, wantBig := 2, 1
		switch {
		case r == 32 || r == 9:
			want, wantBig = 0, 0
		case r >= 0x80 || r >= 0 && strings.ContainsRune(words, r):
			want = 1
		}
		if got := word.Class(r, false); got != want {
			t.Errorf("Class(%#x) is %d, not %d", r, got, want)
		}
		if got := word.Class(r, true); got != wantBig {
			t.Errorf("Class(%#x), big, is %d, not %d", r, got, wantBig)
		}
	}
}

func TestClassOfRunesFarAway(t *testing.T) {
	for _, r := range []rune{0x3000, 0x4E2D, 0xD800, 0xFFFD, 0x10FFFF, 0x110000, math.MaxInt32} {
		if word.Class(r, false) != 1 || word.Class(r, true) != 1 {
			t.Errorf("the class of %#x is not that of words", r)
		}
	}
	for _, r := range []rune{math.MinInt32, -1, -32, -9, 32 - 1<<16, 9 - 1<<8} {
		if word.Class(r, false) != 2 || word.Class(r, true) != 1 {
			t.Errorf("the class of %d is not that of what is not blank and no word", r)
		}
	}
}

// 9.1: cursor's places

func TestClip(t *testing.T) {
	const text = "abc\n\nd\n  "
	for _, w := range []struct{ p, want api.Pos }{
		{at(0, 0), at(0, 0)}, {at(0, 2), at(0, 2)}, {at(0, 3), at(0, 2)}, {at(0, 99), at(0, 2)}, {at(0, -1), at(0, 0)},
		{at(1, 0), at(1, 0)}, {at(1, 1), at(1, 0)}, {at(1, -1), at(1, 0)}, {at(2, 0), at(2, 0)}, {at(2, 1), at(2, 0)},
		{at(3, 1), at(3, 1)}, {at(3, 2), at(3, 1)}, {at(4, 0), at(3, 0)}, {at(4, 1), at(3, 1)}, {at(99, 99), at(3, 1)}, {at(4, -5), at(3, 0)},
		{at(-1, 0), at(0, 0)}, {at(-1, 2), at(0, 2)}, {at(-9, 9), at(0, 2)}, {at(-9, -9), at(0, 0)},
		{at(math.MinInt, math.MaxInt), at(0, 2)}, {at(math.MaxInt, math.MinInt), at(3, 0)}, {at(math.MaxInt, math.MaxInt), at(3, 1)}, {at(math.MinInt, math.MinInt), at(0, 0)},
	} {
		if got := word.Clip(lines(text), w.p); got != w.want {
			t.Errorf("Clip(%v) is %v, not %v", w.p, got, w.want)
		}
	}
}

func TestLast(t *testing.T) {
	for _, w := range []struct {
		s    string
		want api.Pos
	}{
		{"none", at(0, 0)}, {"", at(0, 0)}, {"a", at(0, 0)}, {"abc", at(0, 2)}, {"ab ", at(0, 2)},
		{"abc\n", at(1, 0)}, {"abc\nde", at(1, 1)}, {"\n\n", at(2, 0)}, {"abc\n ", at(1, 0)}, {"\n\nab", at(2, 1)},
	} {
		if got := word.Last(lines(w.s)); got != w.want {
			t.Errorf("Last(%q) is %v, not %v", w.s, got, w.want)
		}
	}
}

func TestCallsClipFirst(t *testing.T) {
	far := []int{math.MinInt, math.MinInt + 1, -1000, -2, -1, 0, 1, 2, 3, 4, 5, 6, 7, 1000, math.MaxInt - 1, math.MaxInt}
	for _, s := range []string{"none", "", " ", "\n", "a.b c\n\n  d e.\n", "A. B\nC.\n\n\nD! e", "\n\na\n\n", " \n. \n)"} {
		l := lines(s)
		for _, line := range far {
			for _, col := range far {
				p := at(line, col)
				near := word.Clip(l, p)
				for _, c := range calls {
					if got, want := c.of(l, p), c.of(l, near); got != want {
						t.Errorf("%s of %q from %v is %v, but from %v %v", c.name, s, p, got, near, want)
					}
				}
			}
		}
	}
	wantSteps(t, next, []step{{"ab\nc d", at(-1, 1), at(1, 0)}, {"ab c\nd", at(-7, -7), at(0, 3)}, {"ab\nc d", at(9, 0), at(1, 2)}, {"a b\nc", at(0, 9), at(1, 0)}})
	wantSteps(t, prev, []step{{"ab\nc d", at(9, 9), at(1, 0)}, {"ab\nc d", at(9, 0), at(0, 0)}, {"a b\nc", at(0, 9), at(0, 0)}, {"a\nb c", at(1, -1), at(0, 0)}})
	wantSteps(t, end, []step{{"ab cd", at(-1, -1), at(0, 1)}, {"ab cd", at(0, 9), at(0, 4)}, {"ab\ncd", at(0, 9), at(1, 1)}})
	wantSteps(t, paraNext, []step{{"a\n\nb", at(-9, 9), at(1, 0)}, {"a\n\nb", at(9, -9), at(2, 0)}})
	wantSteps(t, paraPrev, []step{{"a\n\nb", at(9, -9), at(1, 0)}, {"a\n\nb", at(-9, 9), at(0, 0)}})
	wantSteps(t, sentNext, []step{{"A. B.\nC", at(0, 9), at(1, 0)}, {"A. B", at(-1, -1), at(0, 3)}})
	wantSteps(t, sentPrev, []step{{"A. B.\nC. D", at(9, 9), at(1, 0)}, {"A. B.\nC. D", at(9, 0), at(0, 3)}})
}

func TestNoLinesAndOneEmptyLine(t *testing.T) {
	for _, l := range [][][]rune{nil, {}, {nil}, {{}}} {
		for _, p := range []api.Pos{at(0, 0), at(1, 1), at(-1, -1), at(math.MaxInt, math.MaxInt), at(math.MinInt, math.MinInt)} {
			for _, c := range append(calls, call{"Clip", word.Clip}) {
				if got := c.of(l, p); got != (api.Pos{}) {
					t.Errorf("%s of %d empty lines from %v is %v", c.name, len(l), p, got)
				}
			}
		}
		if got := word.Last(l); got != (api.Pos{}) {
			t.Errorf("Last of %d empty lines is %v", len(l), got)
		}
	}
}

func TestTheFirstAndTheLastPlaceStay(t *testing.T) {
	for _, s := range []string{"", "a", " ", "ab c", " ab. c ", "\n", "\n\n\n", "\na\n", "a.\n\n b", "  \n  "} {
		l := lines(s)
		for _, c := range forward {
			if got := c.of(l, word.Last(l)); got != word.Last(l) {
				t.Errorf("%s of %q leads from the last place to %v", c.name, s, got)
			}
		}
		for _, c := range backward {
			if got := c.of(l, at(0, 0)); got != at(0, 0) {
				t.Errorf("%s of %q leads from the first place to %v", c.name, s, got)
			}
		}
	}
}

func TestOneLineOfBlanks(t *testing.T) {
	l := lines(" \t  ")
	for col := range 4 {
		for _, c := range forward {
			if got := c.of(l, at(0, col)); got != at(0, 3) {
				t.Errorf("%s of blanks from %d is %v", c.name, col, got)
			}
		}
		for _, c := range backward {
			if got := c.of(l, at(0, col)); got != at(0, 0) {
				t.Errorf("%s of blanks from %d is %v", c.name, col, got)
			}
		}
	}
}

// 9.2

func TestTheExamplesOfWords(t *testing.T) {
	wantSteps(t, next, []step{{"a.b c", at(0, 0), at(0, 1)}, {"ab\n\nc", at(0, 0), at(1, 0)}})
	wantSteps(t, nextBig, []step{{"a.b c", at(0, 0), at(0, 4)}})
	wantSteps(t, end, []step{{"a.b c", at(0, 0), at(0, 1)}})
}

func TestNext(t *testing.T) {
	wantWays(t, next, false,
		"ab cd", "0:3 0:4",
		"ab  cd.. ef", "0:4 0:6 0:9 0:10",
		"a.b", "0:1 0:2",
		"a..b!! c", "0:1 0:3 0:4 0:7",
		"a_1+=2", "0:3 0:5",
		"a\tb\t \tc", "0:2 0:6",
		"  ab", "0:2 0:3",
		"ab  ", "0:3",
		"ab\ncd", "1:0 1:1",
		"ab\n  cd", "1:2 1:3",
		"ab\n  \ncd", "2:0 2:1",
		"ab\n\ncd", "1:0 2:0 2:1",
		"ab\n\n\n", "1:0 2:0 3:0",
		"\n\na", "1:0 2:0",
		"a\n..\nb", "1:0 2:0",
		"a \n ", "1:0",
		"a\u00e9\u4e2d b", "0:4",
		"a\x7f\u0080", "0:1 0:2",
		"a\u00a0b\u3000c", "0:4",
	)
	wantSteps(t, next, []step{
		{"ab cd ef", at(0, 1), at(0, 3)}, {"ab cd ef", at(0, 2), at(0, 3)}, {"ab cd ef", at(0, 3), at(0, 6)}, {"ab cd ef", at(0, 6), at(0, 7)},
		{"ab \n  c", at(0, 2), at(1, 2)}, {"ab\n  c", at(1, 0), at(1, 2)}, {"a b\n", at(0, 2), at(1, 0)},
	})
}

func TestNextBig(t *testing.T) {
	wantWays(t, nextBig, false,
		"ab cd", "0:3 0:4",
		"ab  cd.. ef", "0:4 0:9 0:10",
		"a.b", "0:2",
		"a..b!! c", "0:7",
		"a\t.b \t(c)", "0:2 0:6 0:8",
		"ab\n.c\n  d.e", "1:0 2:2 2:4",
		"ab.\n\n(c)", "1:0 2:0 2:2",
		"\x7fa\u0080 \u4e2d", "0:4",
	)
}

func TestPrev(t *testing.T) {
	wantWays(t, prev, true,
		"ab cd", "0:3 0:0",
		"ab  cd.. ef", "0:9 0:6 0:4 0:0",
		"a.b", "0:1 0:0",
		"  ab", "0:2 0:0",
		"ab  ", "0:0",
		"a\tb\t \tc", "0:2 0:0",
		"ab\ncd", "1:0 0:0",
		"ab\n  cd", "1:2 0:0",
		"ab\n  \ncd", "2:0 0:0",
		"ab\n\ncd", "2:0 1:0 0:0",
		"ab\n\n\n", "2:0 1:0 0:0",
		"\n\na", "1:0 0:0",
		"  \n\n  ", "1:0 0:0",
		"a\x7f\u0080", "0:1 0:0",
	)
	wantSteps(t, prev, []step{
		{"ab cd ef", at(0, 7), at(0, 6)}, {"ab cd ef", at(0, 6), at(0, 3)}, {"ab cd ef", at(0, 5), at(0, 3)}, {"ab cd ef", at(0, 4), at(0, 3)}, {"ab cd ef", at(0, 3), at(0, 0)}, {"ab cd ef", at(0, 2), at(0, 0)},
		{"ab c\n  d", at(1, 2), at(0, 3)}, {"ab c\n  d", at(1, 0), at(0, 3)},
	})
}

func TestPrevBig(t *testing.T) {
	wantWays(t, prevBig, true,
		"ab  cd.. ef", "0:9 0:4 0:0",
		"a.b", "0:0",
		"a\t.b \t(c)", "0:6 0:2 0:0",
		"ab\n.c\n  d.e", "2:2 1:0 0:0",
		"ab.\n\n(c)", "2:0 1:0 0:0",
	)
}

func TestEnd(t *testing.T) {
	wantWays(t, end, false,
		"ab cd", "0:1 0:4",
		"ab  cd.. ef", "0:1 0:5 0:7 0:10",
		"a.b", "0:1 0:2",
		"a..b!! c", "0:2 0:3 0:5 0:7",
		"  ab", "0:3",
		"ab  ", "0:1 0:3",
		"a\tb\t \tcd", "0:2 0:7",
		"ab\ncd", "0:1 1:1",
		"ab\n  cd", "0:1 1:3",
		"ab\n\n\ncd", "0:1 3:1",
		"ab\n  \n\n", "0:1 3:0",
		"a\n..\nb", "1:1 2:0",
		"\n\nab c", "2:1 2:3",
		"a\x7f\u0080", "0:1 0:2",
	)
	wantSteps(t, end, []step{
		{"ab cd ef", at(0, 1), at(0, 4)}, {"ab cd ef", at(0, 2), at(0, 4)}, {"ab cd ef", at(0, 3), at(0, 4)}, {"ab cd ef", at(0, 4), at(0, 7)},
	})
}

func TestEndBig(t *testing.T) {
	wantWays(t, endBig, false,
		"ab  cd.. ef", "0:1 0:7 0:10",
		"a.b", "0:2",
		"a..b!! c", "0:5 0:7",
		"ab\n.c\n\n  d.e ", "0:1 1:1 3:4 3:5",
		"a\t.b\tc", "0:3 0:5",
	)
}

func TestWordsOfRunesBelowZero(t *testing.T) {
	l := [][]rune{{'a', -1, math.MinInt32, '.', 'b', -32, ' ', -5}}
	for _, w := range []struct {
		c    call
		back bool
		want string
	}{
		{next, false, "0:1 0:4 0:5 0:7"}, {nextBig, false, "0:7"}, {end, false, "0:3 0:4 0:5 0:7"}, {endBig, false, "0:5 0:7"},
		{prev, true, "0:5 0:4 0:1 0:0"}, {prevBig, true, "0:0"},
	} {
		p := at(0, 0)
		if w.back {
			p = word.Last(l)
		}
		if got := told(way(l, p, w.c)); got != w.want {
			t.Errorf("%s goes through runes below 0 by %q, not %q", w.c.name, got, w.want)
		}
	}
}

// 9.3

func TestParaNext(t *testing.T) {
	wantSteps(t, paraNext, []step{{"ab\n\nc", at(0, 0), at(1, 0)}})
	wantWays(t, paraNext, false,
		"a\nb\n\nc\nd\n\ne f", "2:0 5:0 6:2",
		"a\n\n\n\nb\n\n\nc", "1:0 5:0 7:0",
		"\n\na\n\nb", "3:0 4:0",
		"\n\n\n", "3:0",
		"a\nb", "1:0",
		"a\n\n", "1:0 2:0",
		"a\n", "1:0",
		"a\n  \nb\n\t\n\nc", "4:0 5:0",
		"\na", "1:0",
		"\nab", "1:1",
	)
	wantSteps(t, paraNext, []step{
		{"abc\nd\n\ne", at(0, 2), at(2, 0)}, {"abc\n\n\ne", at(1, 0), at(3, 0)}, {"abc\n\n\ne\n\n", at(2, 0), at(4, 0)}, {"a\n\nbcd", at(2, 1), at(2, 2)},
	})
}

func TestParaPrev(t *testing.T) {
	wantWays(t, paraPrev, true,
		"a\nb\n\nc\nd\n\ne f", "5:0 2:0 0:0",
		"a\n\n\n\nb\n\n\nc", "6:0 3:0 0:0",
		"\n\na\n\nb", "3:0 1:0 0:0",
		"\n\n\n", "0:0",
		"a\nb", "0:0",
		"a\n\n", "0:0",
		"ab\n\n\nc\n\n\n", "2:0 0:0",
		"a\n\n  \nb\n\t\n\nc", "5:0 1:0 0:0",
		"\na", "0:0",
		"\n\nab", "1:0 0:0",
	)
	wantSteps(t, paraPrev, []step{
		{"a\n\nb\ncd", at(3, 1), at(1, 0)}, {"a\n\nb", at(1, 0), at(0, 0)}, {"\n\na\n\n\nb", at(4, 0), at(1, 0)}, {"\n\na\n\n\nb", at(3, 0), at(1, 0)}, {"\n\na\n\n\nb", at(2, 0), at(1, 0)}, {"abc", at(0, 2), at(0, 0)},
	})
}

// 9.4

func TestTheExampleOfSentences(t *testing.T) {
	wantSteps(t, sentNext, []step{{"A. B", at(0, 0), at(0, 3)}})
}

// sentences are texts, and where sentences begin in them, behind the first place and ahead of the last one.
var sentences = []string{
	"A. B c. D e", "0:3 0:8",
	"A! B? C. D e", "0:3 0:6 0:9",
	"A, b; c: d", "",
	"A.b c!d ?e f", "",
	"A...  B!?  C", "0:6",
	"A.  \t B c", "0:6",
	"A.\tB c", "0:3",
	"A.) B.] C.\" D.' E f", "0:4 0:8 0:12 0:16",
	"A!)]\"' B?'\"]) C d", "0:7 0:14",
	"A.)b C.]. D e", "0:10",
	"A) b] c\" d' e f", "",
	"A.( b.} c.> d e", "",
	"A. ) b c", "0:3",
	". b . c d", "0:2 0:6",
	".) b c", "0:3",
	") b c", "",
	"a .b c", "",
	"A. .b c", "0:3",
	"A.  ", "",
	"  a b", "0:2",
	"  a. b c", "0:2 0:5",
	" \t. b c", "0:2 0:4",
}

func TestSentencesWithinALine(t *testing.T) {
	for pair := range slices.Chunk(sentences, 2) {
		wantWays(t, sentNext, false, pair[0], strings.TrimSpace(pair[1]+" "+told([]api.Pos{word.Last(lines(pair[0]))})))
		back := strings.Fields(pair[1])
		slices.Reverse(back)
		wantWays(t, sentPrev, true, pair[0], strings.Join(append(back, "0:0"), " "))
	}
}

// sentencesOfLines are the same of several lines.
var sentencesOfLines = []string{
	"a b\nc d\ne f", "",
	"A.\nB c", "1:0",
	"A!\nb?\nc.\nd e", "1:0 2:0 3:0",
	"A. \t \nB c", "1:0",
	"A.)\"\nB.']  \nC d", "1:0 2:0",
	"A.x\nB c", "",
	"A)\nB c", "",
	"A,  \nB c", "",
	"A.\n  B c", "1:2",
	"A,\n  B c", "",
	"A. \n \tB. C d", "1:2 1:5",
	"a\n\nb c", "1:0 2:0",
	"a.\n\nb c", "1:0 2:0",
	"a\n\n\n\nb c", "1:0 4:0",
	"a\n\n\n", "1:0",
	"a\n\n  b c", "1:0 2:2",
	"a\n  \nb c", "2:0",
	"a.\n  \nb c", "2:0",
	"a.\n  \n  \n  b c", "3:2",
	"a\n  \n\n  \nb c", "2:0 4:0",
	"\na b", "1:0",
	"\n\na b", "2:0",
	"  \n\na b", "1:0 2:0",
	"  \n  a b", "1:2",
	"  \n  ", "",
	"a.\n)\nb c", "1:0",
	"a.\n.\nb c", "1:0 2:0",
	"a.\n.)\n b c", "1:0 2:1",
	"a\n.  b c", "1:3",
	"A b.  C\nd.  E\nf g", "0:6 1:4",
}

func TestSentencesOverLines(t *testing.T) {
	for pair := range slices.Chunk(sentencesOfLines, 2) {
		l := told([]api.Pos{word.Last(lines(pair[0]))})
		wantWays(t, sentNext, false, pair[0], strings.TrimSpace(pair[1]+" "+l))
		back := strings.Fields(pair[1])
		slices.Reverse(back)
		wantWays(t, sentPrev, true, pair[0], strings.Join(append(back, "0:0"), " "))
	}
}

func TestSentencesFromBetween(t *testing.T) {
	wantSteps(t, sentNext, []step{
		{"Ab. Cd. Ef", at(0, 2), at(0, 4)}, {"Ab. Cd. Ef", at(0, 3), at(0, 4)}, {"Ab. Cd. Ef", at(0, 4), at(0, 8)}, {"Ab. Cd. Ef", at(0, 8), at(0, 9)},
		{"Ab.\n\n\nCd", at(1, 0), at(3, 0)}, {"Ab.\n\n\nCd", at(2, 0), at(3, 0)}, {"Ab.\n\n\nCd", at(0, 1), at(1, 0)}, {"Ab.  \nCd", at(0, 4), at(1, 0)},
	})
	wantSteps(t, sentPrev, []step{
		{"Ab. Cd. Ef", at(0, 9), at(0, 8)}, {"Ab. Cd. Ef", at(0, 8), at(0, 4)}, {"Ab. Cd. Ef", at(0, 7), at(0, 4)}, {"Ab. Cd. Ef", at(0, 4), at(0, 0)}, {"  Ab. Cd", at(0, 3), at(0, 2)}, {"  Ab. Cd", at(0, 2), at(0, 0)},
		{"Ab.\n\n\nCd", at(3, 1), at(3, 0)}, {"Ab.\n\n\nCd", at(3, 0), at(1, 0)}, {"Ab.\n\n\nCd", at(2, 0), at(1, 0)}, {"Ab.\n\n\nCd", at(1, 0), at(0, 0)},
	})
}

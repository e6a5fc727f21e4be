package word_test

import (
	"math"
	"math/rand"
	"reflect"
	"regexp"
	"slices"
	"strings"
	"testing"

	"inkhorn/api"
	"inkhorn/word"
)

// is tells of a cursor's place whether it is one of those that a call looks for.
type is func(l [][]rune, p api.Pos) bool

// places tells all cursor's places, in their order.
func places(l [][]rune) []api.Pos {
	var all []api.Pos
	for i, line := range l {
		for col := range max(len(line), 1) {
			all = append(all, at(i, col))
		}
	}
	return all
}

// those tells all cursor's places that are so.
func those(l [][]rune, so is) []api.Pos {
	return slices.DeleteFunc(places(l), func(p api.Pos) bool { return !so(l, p) })
}

// classIn tells a rune's class as a letter; of a column that the line doesn't have, that of a line's end.
func classIn(line []rune, col int, big bool) string {
	const words = "_0123456789abcdefghijklmnopqrstuvwxyzABCDEFGHIJKLMNOPQRSTUVWXYZ"
	switch {
	case col < 0 || col >= len(line):
		return "end"
	case line[col] == 9 || line[col] == 32:
		return "blank"
	case !big && line[col] < 0x80 && (line[col] < 0 || !strings.ContainsRune(words, line[col])):
		return "other"
	}
	return "word"
}

// wordBegins, wordEnds: promise 9.2's words.
func wordBegins(big bool) is {
	return func(l [][]rune, p api.Pos) bool {
		here := classIn(l[p.Line], p.Col, big)
		return here == "end" || here != "blank" && here != classIn(l[p.Line], p.Col-1, big)
	}
}

func wordEnds(big bool) is {
	return func(l [][]rune, p api.Pos) bool {
		here := classIn(l[p.Line], p.Col, big)
		return here != "end" && here != "blank" && here != classIn(l[p.Line], p.Col+1, big)
	}
}

// emptyBehind, emptyAhead: promise 9.3's lines.
func emptyBehind(l [][]rune, p api.Pos) bool {
	return len(l[p.Line]) == 0 && p.Line > 0 && len(l[p.Line-1]) > 0
}

func emptyAhead(l [][]rune, p api.Pos) bool {
	return len(l[p.Line]) == 0 && p.Line < len(l)-1 && len(l[p.Line+1]) > 0
}

var (
	blanks      = regexp.MustCompile(`^[ \t]*$`)
	endAtEnd    = regexp.MustCompile(`[.!?][)\]"']*[ \t]*$`)
	endByBlanks = regexp.MustCompile(`[.!?][)\]"']*[ \t]+$`)
)

// sentenceBegins: promise 9.4's places. (A text of the runes ahead tells them: those below 0 become another rune that is neither blank nor a sign.)
func sentenceBegins(l [][]rune, p api.Pos) bool {
	line := l[p.Line]
	if len(line) == 0 {
		return emptyBehind(l, p)
	}
	said := string(line[:p.Col])
	switch {
	case blanks.MatchString(string(line[p.Col : p.Col+1])):
		return false
	case !blanks.MatchString(said):
		return endByBlanks.MatchString(said)
	case p.Line == 0:
		return true
	}
	other := string(l[p.Line-1])
	return blanks.MatchString(other) || endAtEnd.MatchString(other)
}

// wantNearest fails, if a call does not tell, of all places, the nearest one behind (ahead of) them that is so.
func wantNearest(t *testing.T, l [][]rune, c call, back bool, so is) {
	t.Helper()
	found, all := those(l, so), places(l)
	order := func(p, q api.Pos) int { return slices.Index(all, p) - slices.Index(all, q) }
	for _, p := range all {
		i, here := slices.BinarySearchFunc(found, p, order)
		want := all[len(all)-1]
		switch {
		case back && i == 0:
			want = all[0]
		case back:
			want = found[i-1]
		case here && i+1 < len(found):
			want = found[i+1]
		case !here && i < len(found):
			want = found[i]
		}
		if got := c.of(l, p); got != want {
			t.Errorf("%s of %q from %v is %v, not %v", c.name, l, p, got, want)
		}
	}
}

// wantAll fails, if any call tells another place than the chapter.
func wantAll(t *testing.T, l [][]rune) {
	t.Helper()
	wantNearest(t, l, next, false, wordBegins(false))
	wantNearest(t, l, nextBig, false, wordBegins(true))
	wantNearest(t, l, prev, true, wordBegins(false))
	wantNearest(t, l, prevBig, true, wordBegins(true))
	wantNearest(t, l, end, false, wordEnds(false))
	wantNearest(t, l, endBig, false, wordEnds(true))
	wantNearest(t, l, paraNext, false, emptyBehind)
	wantNearest(t, l, paraPrev, true, emptyAhead)
	wantNearest(t, l, sentNext, false, sentenceBegins)
	wantNearest(t, l, sentPrev, true, sentenceBegins)
}

// eachText tells each text of up to n of the signs.
func eachText(signs string, n int) []string {
	all := []string{""}
	begin := 0
	for range n {
		size := len(all)
		for _, s := range all[begin:size] {
			for _, sign := range signs {
				all = append(all, s+string(sign))
			}
		}
		begin = size
	}
	return all
}

// chanceLines tells lines by chance.
func chanceLines(chance *rand.Rand) [][]rune {
	signs := []rune("aab_.!?)]\"',( \t  \u00e9\u0080\x7f")
	signs = append(signs, -1, -32, math.MinInt32, 0x110000)
	l := make([][]rune, 1+chance.Intn(8))
	for i := range l {
		for range chance.Intn(4) * chance.Intn(6) {
			l[i] = append(l[i], signs[chance.Intn(len(signs))])
		}
	}
	return l
}

// 9.2 to 9.4: held against all places

func TestEachShortText(t *testing.T) {
	for _, s := range eachText("a. \n", 6) {
		wantAll(t, lines(s))
	}
	for _, s := range eachText("a!\" )\t\n", 4) {
		wantAll(t, lines(s))
	}
}

func TestTextsByChance(t *testing.T) {
	chance := rand.New(rand.NewSource(9))
	for range 1000 {
		wantAll(t, chanceLines(chance))
	}
}

// 9.5

// withEnd tells places with one more behind them, if it is not the last one of them.
func withEnd(l []api.Pos, p api.Pos) []api.Pos {
	if len(l) > 0 && l[len(l)-1] == p {
		return l
	}
	return append(l, p)
}

// wantEachOnce fails, if one who goes on word by word, or back, does not come to each beginning once. (At the first place one is to begin with, going on; and at the last one, going back.)
func wantEachOnce(t *testing.T, l [][]rune) {
	t.Helper()
	first, last := at(0, 0), word.Last(l)
	for _, w := range []struct {
		forth, back call
		so          is
	}{{next, prev, wordBegins(false)}, {nextBig, prevBig, wordBegins(true)}, {sentNext, sentPrev, sentenceBegins}} {
		begins := those(l, w.so)
		want := withEnd(slices.Clone(begins), last)
		if want[0] == first {
			want = want[1:]
		}
		if got := way(l, first, w.forth); !slices.Equal(got, want) {
			t.Errorf("%s goes through %q by %s, not %s", w.forth.name, l, told(got), told(want))
		}
		slices.Reverse(begins)
		want = withEnd(begins, first)
		if want[0] == last {
			want = want[1:]
		}
		if got := way(l, last, w.back); !slices.Equal(got, want) {
			t.Errorf("%s goes through %q by %s, not %s", w.back.name, l, told(got), told(want))
		}
	}
}

func TestEachBeginningOnce(t *testing.T) {
	for _, s := range eachText("a. \n", 6) {
		wantEachOnce(t, lines(s))
	}
	chance := rand.New(rand.NewSource(95))
	for range 2000 {
		wantEachOnce(t, chanceLines(chance))
	}
}

// R4: what is handed in

// withRest tells copies of lines, with what lies behind each one's end.
func withRest(l [][]rune) [][]rune {
	var c [][]rune
	for _, line := range l {
		c = append(c, slices.Clone(line[:cap(line)]))
	}
	return c
}

// lengths tells how long lines are.
func lengths(l [][]rune) []int {
	var n []int
	for _, line := range l {
		n = append(n, len(line))
	}
	return n
}

func TestLinesStayAsTheyAre(t *testing.T) {
	whole := lines("A. b) c!\" D e  xx\n  xx\nxx\n\tf. G  xx\nbehind the list's end")
	l := whole[:4]
	for i := range l { // two runes of each lie behind its end
		l[i] = l[i][:len(l[i])-2]
	}
	before, long := withRest(whole), lengths(whole)
	for line := -1; line < 6; line++ {
		for col := -1; col < 20; col++ {
			word.Clip(l, at(line, col))
			word.Last(l)
			for _, c := range calls {
				c.of(l, at(line, col))
			}
		}
	}
	if !reflect.DeepEqual(before, withRest(whole)) || !slices.Equal(long, lengths(whole)) {
		t.Error("the lines are others now")
	}
}

// R1: large inputs

// wantWayOf fails, if a call's way through lines has another number of places, or ends elsewhere.
func wantWayOf(t *testing.T, l [][]rune, c call, back bool, n int) {
	t.Helper()
	from, to := at(0, 0), word.Last(l)
	if back {
		from, to = to, from
	}
	got := way(l, from, c)
	if len(got) != n || n > 0 && got[n-1] != to {
		t.Errorf("%s goes through %d lines by %d places, not %d to %v", c.name, len(l), len(got), n, to)
	}
}

func TestALongLine(t *testing.T) {
	n := api.MaxRunes / 4
	l := lines(strings.Repeat("ab. ", n) + "c")
	wantWayOf(t, l, next, false, 2*n)
	wantWayOf(t, l, prev, true, 2*n)
	wantWayOf(t, l, end, false, 2*n+1)
	wantWayOf(t, l, nextBig, false, n)
	wantWayOf(t, l, prevBig, true, n)
	wantWayOf(t, l, endBig, false, n+1)
	wantWayOf(t, l, sentNext, false, n)
	wantWayOf(t, l, sentPrev, true, n)
	wantWayOf(t, l, paraNext, false, 1)
	wantWayOf(t, l, paraPrev, true, 1)
}

func TestALongLineOfOneKind(t *testing.T) {
	for _, sign := range []string{"a", " ", ".", ")", ".)", ") ", ". "} {
		l := lines(strings.Repeat(sign, api.MaxRunes/len(sign)))
		last := word.Last(l)
		for _, c := range calls {
			for _, p := range []api.Pos{at(0, 0), at(0, last.Col/2), last} {
				if q := c.of(l, p); q != word.Clip(l, q) {
					t.Errorf("%s leads through signs %q to %v", c.name, sign, q)
				}
			}
		}
	}
}

func TestALongSentencesEnd(t *testing.T) {
	l := lines("A." + strings.Repeat(")", api.MaxRunes) + strings.Repeat(" ", api.MaxRunes) + "B c")
	begin := at(0, 2*api.MaxRunes+2)
	if p := word.SentNext(l, at(0, 0)); p != begin {
		t.Errorf("behind a long sentence's end and long blanks a sentence begins at %v, not %v", p, begin)
	}
	if p := word.SentPrev(l, word.Last(l)); p != begin {
		t.Errorf("behind a long sentence's end and long blanks a sentence begins at %v, not %v, for one who goes back", p, begin)
	}
}

func TestManyLines(t *testing.T) {
	n := api.MaxRunes / 2
	l := lines(strings.Repeat("a.\n\n", n) + "b")
	wantWayOf(t, l, next, false, 3*n)
	wantWayOf(t, l, prev, true, 3*n)
	wantWayOf(t, l, nextBig, false, 2*n)
	wantWayOf(t, l, prevBig, true, 2*n)
	wantWayOf(t, l, end, false, 2*n)
	wantWayOf(t, l, endBig, false, n+1)
	wantWayOf(t, l, paraNext, false, n+1)
	wantWayOf(t, l, paraPrev, true, n+1)
	wantWayOf(t, l, sentNext, false, 2*n)
	wantWayOf(t, l, sentPrev, true, 2*n)
}

func TestManyEmptyLines(t *testing.T) {
	n := api.MaxRunes
	l := make([][]rune, n)
	for _, c := range []call{next, nextBig} {
		wantWayOf(t, l, c, false, n-1)
	}
	for _, c := range []call{prev, prevBig} {
		wantWayOf(t, l, c, true, n-1)
	}
	for _, c := range []call{end, endBig, paraNext, sentNext} {
		wantWayOf(t, l, c, false, 1)
	}
	for _, c := range []call{paraPrev, sentPrev} {
		wantWayOf(t, l, c, true, 1)
	}
}

func TestManyLinesOfBlanks(t *testing.T) {
	l := slices.Repeat([][]rune{[]rune(" \t ")}, api.MaxRunes/4)
	for _, c := range forward {
		wantWayOf(t, l, c, false, 1)
	}
	for _, c := range backward {
		wantWayOf(t, l, c, true, 1)
	}
}

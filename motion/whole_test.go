package motion_test

import (
	"math"
	"math/rand"
	"reflect"
	"slices"
	"strings"
	"testing"

	"inkhorn/api"
	"inkhorn/motion"
	"inkhorn/word"
)

// A second telling of the table: by lists of places, through which one goes one by one.

// blankAt tells whether a line has a blank there.
func blankAt(line []rune, col int) bool {
	return line[col] == ' ' || line[col] == '\t'
}

// firstOf tells the place of a line's first rune, as the chapter has it.
func firstOf(l [][]rune, line int) api.Pos {
	for col := range l[line] {
		if !blankAt(l[line], col) {
			return at(line, col)
		}
	}
	return lastOf(l, line)
}

// lastOf tells the place of a line's last rune.
func lastOf(l [][]rune, line int) api.Pos {
	return at(line, max(len(l[line]), 1)-1)
}

// walk tells the places through which n steps lead, p ahead of them, up to the first step that doesn't move.
func walk(p api.Pos, n int, one func(api.Pos) api.Pos) []api.Pos {
	way := []api.Pos{p}
	for range min(n, 1000) {
		next := one(p)
		if next == p {
			break
		}
		way, p = append(way, next), next
	}
	return way
}

// partners tells of each bracket of the lines that has a partner, where that is.
func partners(l [][]rune) map[api.Pos]api.Pos {
	pairs, open := map[api.Pos]api.Pos{}, map[int][]api.Pos{}
	for i, line := range l {
		for col, r := range line {
			if r < 0 || r > 0x7f {
				continue
			}
			if kind := strings.IndexRune("([{", r); kind >= 0 {
				open[kind] = append(open[kind], at(i, col))
			}
			if kind := strings.IndexRune(")]}", r); kind >= 0 && len(open[kind]) > 0 {
				last := len(open[kind]) - 1
				pairs[at(i, col)], pairs[open[kind][last]] = open[kind][last], at(i, col)
				open[kind] = open[kind][:last]
			}
		}
	}
	return pairs
}

// stepOf tells what one step of a key is; nil, if it is not done by steps.
func stepOf(l [][]rune, key rune) func(api.Pos) api.Pos {
	switch key {
	case 'w', 'W':
		return func(p api.Pos) api.Pos { return word.Next(l, p, key == 'W') }
	case 'b', 'B':
		return func(p api.Pos) api.Pos { return word.Prev(l, p, key == 'B') }
	case 'e', 'E':
		return func(p api.Pos) api.Pos { return word.End(l, p, key == 'E') }
	case '}':
		return func(p api.Pos) api.Pos { return word.ParaNext(l, p) }
	case '{':
		return func(p api.Pos) api.Pos { return word.ParaPrev(l, p) }
	case ')':
		return func(p api.Pos) api.Pos { return word.SentNext(l, p) }
	case '(':
		return func(p api.Pos) api.Pos { return word.SentPrev(l, p) }
	}
	return nil
}

// bySteps tells the answer of a key that is done by steps.
func bySteps(l [][]rune, p api.Pos, key rune, n int, op bool) answer {
	way := walk(p, n, stepOf(l, key))
	if len(way) == 1 {
		return no(p)
	}
	began, to := way[len(way)-2], way[len(way)-1]
	if op && (key == 'w' || key == 'W') && to.Line > began.Line {
		to = at(began.Line, len(l[began.Line]))
	}
	if key == 'e' || key == 'E' {
		return answer{to, api.MoveOn, true}
	}
	return answer{to, api.MoveBefore, true}
}

// byFinding tells the answer of f, F, t, T.
func byFinding(l [][]rune, p api.Pos, m api.Motion, n int) answer {
	var found []int
	for col, r := range l[p.Line] {
		switch {
		case r != m.Arg:
		case col > p.Col && (m.Key == 'f' || m.Key == 't'):
			found = append(found, col)
		case col < p.Col && (m.Key == 'F' || m.Key == 'T'):
			found = slices.Insert(found, 0, col)
		}
	}
	if n > len(found) {
		return no(p)
	}
	col := found[n-1]
	return map[rune]answer{'f': {at(p.Line, col), api.MoveOn, true}, 'F': {at(p.Line, col), api.MoveBefore, true}, 't': {at(p.Line, col-1), api.MoveOn, true}, 'T': {at(p.Line, col+1), api.MoveBefore, true}}[m.Key]
}

// byLine tells the answer of the motions of lines, by the line to which they lead; no, if there is none.
func byLine(l [][]rune, p api.Pos, m api.Motion, n int) answer {
	line := map[rune]int{'j': p.Line + n, 'k': p.Line - n, '+': p.Line + n, '-': p.Line - n, '_': p.Line + n - 1, 'G': n - 1, 'g': n - 1}[m.Key]
	if m.Key == 'G' && m.Count <= 0 || (m.Key == 'G' || m.Key == 'g') && line > len(l)-1 {
		line = len(l) - 1
	}
	if line < 0 || line > len(l)-1 {
		return no(p)
	}
	if m.Key != 'j' && m.Key != 'k' {
		return answer{firstOf(l, line), api.MoveLine, true}
	}
	col := p.Col
	if m.Want >= 0 {
		col = m.Want
	}
	return answer{at(line, min(col, lastOf(l, line).Col)), api.MoveLine, true}
}

// plain tells what the chapter says of a cursor's place and a count that is not as large as an int.
func plain(l [][]rune, p api.Pos, m api.Motion, op bool) answer {
	n := max(m.Count, 1)
	switch m.Key {
	case 'h':
		return answer{at(p.Line, max(p.Col-n, 0)), api.MoveBefore, p.Col > 0}
	case 'l':
		end := lastOf(l, p.Line).Col
		if op {
			end = len(l[p.Line])
		}
		return answer{at(p.Line, min(p.Col+n, end)), api.MoveBefore, p.Col < end}
	case '0':
		return answer{at(p.Line, 0), api.MoveBefore, true}
	case '^':
		return answer{firstOf(l, p.Line), api.MoveBefore, true}
	case '|':
		return answer{at(p.Line, min(n-1, lastOf(l, p.Line).Col)), api.MoveBefore, true}
	case '$':
		if p.Line+n > len(l) {
			return no(p)
		}
		return answer{lastOf(l, p.Line+n-1), api.MoveOn, true}
	case 'f', 'F', 't', 'T':
		return byFinding(l, p, m, n)
	case 'j', 'k', '+', '-', '_', 'G', 'g':
		return byLine(l, p, m, n)
	case '%':
		for col := p.Col; col < len(l[p.Line]); col++ {
			if slices.Contains([]rune("()[]{}"), l[p.Line][col]) {
				to, there := partners(l)[at(p.Line, col)]
				return answer{to, api.MoveOn, there}
			}
		}
		return no(p)
	}
	return bySteps(l, p, m.Key, n, op)
}

// places tells all cursor's places, in their order.
func places(l [][]rune) []api.Pos {
	var all []api.Pos
	for i, line := range l {
		for col := range max(len(line), 1) {
			all = append(all, at(i, col))
		}
	}
	return all
}

// wantPlain fails, if a motion leads elsewhere than the chapter says, or (10.2) to what is neither a cursor's place nor, with an operator, a line's length.
func wantPlain(t *testing.T, l [][]rune, p api.Pos, m api.Motion, op bool) {
	t.Helper()
	got, want := move(l, p, m, op), plain(l, p, m, op)
	if !want.ok {
		want = no(p)
	}
	if got != want {
		t.Errorf("%c (%v, operator: %v) of %q from %v: %v, not %v", m.Key, m, op, l, p, got, want)
	}
	if word.Clip(l, got.p) != got.p && !(op && got.p.Col == len(l[got.p.Line])) {
		t.Errorf("%c (%v, operator: %v) of %q from %v leads to %v", m.Key, m, op, l, p, got.p)
	}
}

// wantThereAndBack fails, if % twice does not lead back to the bracket.
func wantThereAndBack(t *testing.T, l [][]rune, p api.Pos, op bool) {
	t.Helper()
	there := move(l, p, api.Motion{Key: '%'}, op)
	if !there.ok {
		return
	}
	back := move(l, there.p, api.Motion{Key: '%'}, op)
	again := move(l, back.p, api.Motion{Key: '%'}, op)
	first := p.Col + slices.IndexFunc(l[p.Line][p.Col:], func(r rune) bool { return slices.Contains([]rune("()[]{}"), r) })
	if want := (answer{at(p.Line, first), api.MoveOn, true}); back != want || again != there {
		t.Errorf("%% of %q from %v leads to %v, from there to %v, from there to %v", l, p, there, back, again)
	}
}

// wantAll fails, if any key leads elsewhere from any place.
func wantAll(t *testing.T, l [][]rune, keys string, counts []int, m api.Motion) {
	t.Helper()
	for _, p := range places(l) {
		for _, op := range []bool{false, true} {
			for _, m.Key = range keys {
				for _, m.Count = range counts {
					wantPlain(t, l, p, m, op)
				}
			}
			wantThereAndBack(t, l, p, op)
		}
	}
}

// eachText tells each text of up to n of the signs.
func eachText(signs string, n int) []string {
	all := []string{""}
	begin := 0
	for range n {
		size := len(all)
		for _, s := range all[begin:size] {
			for _, sign := range signs {
				all = append(all, s+string(sign))
			}
		}
		begin = size
	}
	return all
}

// 10.1, 10.2: all short texts, and texts by chance

func TestEachShortText(t *testing.T) {
	for _, s := range eachText("a. \n", 5) {
		wantAll(t, lines(s), allKeys, []int{0, 1, 2, 3}, api.Motion{Arg: 'a', Want: -1})
	}
	for _, s := range eachText("a \n", 4) {
		for want := range 5 {
			wantAll(t, lines(s), "jk", []int{1, 2, 3}, api.Motion{Want: want})
		}
	}
}

func TestEachShortTextOfBrackets(t *testing.T) {
	for _, s := range eachText("()[]\n", 5) {
		wantAll(t, lines(s), "%", []int{0, 2}, api.Motion{})
	}
	for _, s := range eachText("(){}a\n", 4) {
		wantAll(t, lines(s), "%", []int{0}, api.Motion{})
	}
	for _, s := range eachText("()\n", 8) {
		wantAll(t, lines(s), "%", []int{0}, api.Motion{})
	}
}

// chanceLines tells lines by chance.
func chanceLines(chance *rand.Rand) [][]rune {
	signs := []rune("aab_.!?)(][}{ \t  \u00e9\u4e2d\x7f")
	signs = append(signs, -1, -32, math.MinInt32, 0x110000)
	l := make([][]rune, 1+chance.Intn(7))
	for i := range l {
		for range chance.Intn(4) * chance.Intn(6) {
			l[i] = append(l[i], signs[chance.Intn(len(signs))])
		}
	}
	return l
}

func TestTextsByChance(t *testing.T) {
	chance := rand.New(rand.NewSource(10))
	for range 80 {
		l := chanceLines(chance)
		for _, arg := range []rune{'a', ' ', -1} {
			wantAll(t, l, allKeys, []int{-3, 0, 1, 2, 5, 40}, api.Motion{Arg: arg, Want: chance.Intn(20) - 5})
		}
	}
}

// R4: what is handed in

func TestLinesStayAsTheyAre(t *testing.T) {
	whole := lines("A. (b) c!\" D e  xx\n  {xx\n[xx\n\tf}. ]G  xx\nbehind the list's end")
	l := whole[:4]
	for i := range l { // two runes of each lie behind its end
		l[i] = l[i][:len(l[i])-2]
	}
	copied := func() (long []int, all [][]rune) {
		for _, line := range whole {
			long, all = append(long, len(line)), append(all, slices.Clone(line[:cap(line)]))
		}
		return long, all
	}
	longBefore, before := copied()
	for line := -1; line < 6; line++ {
		for col := -1; col < 20; col++ {
			for _, key := range allKeys + "x" {
				for _, count := range []int{0, 3, 100} {
					motion.Move(l, at(line, col), api.Motion{Key: key, Count: count, Arg: 'b'}, col%2 == 0)
				}
			}
		}
	}
	if long, after := copied(); !reflect.DeepEqual(before, after) || !slices.Equal(longBefore, long) {
		t.Error("the lines are others now")
	}
}

// R1: large inputs

// wantMove fails, if a motion leads elsewhere.
func wantMove(t *testing.T, l [][]rune, p api.Pos, m api.Motion, op bool, want answer) {
	t.Helper()
	if got := move(l, p, m, op); got != want {
		t.Errorf("%c, %d times, (operator: %v) of %d lines from %v: %v, not %v", m.Key, m.Count, op, len(l), p, got, want)
	}
}

func TestALongLine(t *testing.T) {
	n := api.MaxRunes / 4
	l := lines(strings.Repeat("ab. ", n) + "c")
	first, mid, last := at(0, 0), at(0, 4*(n/2)), at(0, 4*n)
	for _, w := range []struct {
		key      rune
		p        api.Pos
		fit      int // as often as there is room
		to       api.Pos
		how      int
		tooOften bool // it can be done more often, too
	}{
		{'l', first, 4 * n, last, api.MoveBefore, true}, {'h', last, 4 * n, first, api.MoveBefore, true},
		{'w', first, 2 * n, last, api.MoveBefore, true}, {'W', first, n, last, api.MoveBefore, true}, {'b', last, 2 * n, first, api.MoveBefore, true}, {'B', last, n, first, api.MoveBefore, true},
		{'e', first, 2*n + 1, last, api.MoveOn, true}, {'E', first, n + 1, last, api.MoveOn, true},
		{'f', first, n, at(0, 4*n-2), api.MoveOn, false}, {'F', last, n, at(0, 2), api.MoveBefore, false}, {'t', first, n, at(0, 4*n-3), api.MoveOn, false}, {'T', last, n, at(0, 3), api.MoveBefore, false},
		{')', first, n, last, api.MoveBefore, true}, {'(', last, n, first, api.MoveBefore, true}, {'}', first, 1, last, api.MoveBefore, true}, {'{', last, 1, first, api.MoveBefore, true},
		{'|', mid, 4*n + 1, last, api.MoveBefore, true}, {'$', mid, 1, last, api.MoveOn, false}, {'_', mid, 1, first, api.MoveLine, false}, {'G', mid, 1, first, api.MoveLine, true}, {'g', mid, 1, first, api.MoveLine, true},
	} {
		m := api.Motion{Key: w.key, Arg: '.', Want: -1}
		to := answer{w.to, w.how, true}
		m.Count = w.fit
		wantMove(t, l, w.p, m, false, to)
		if m.Count = w.fit - 1; m.Count > 0 && move(l, w.p, m, false) == to {
			t.Errorf("%c of a long line leads there with one step less, too", w.key)
		}
		if !w.tooOften {
			to = no(w.p)
		}
		for _, m.Count = range []int{w.fit + 1, math.MaxInt} {
			wantMove(t, l, w.p, m, false, to)
		}
	}
	wantMove(t, l, first, api.Motion{Key: 'l', Count: math.MaxInt}, true, answer{at(0, 4*n+1), api.MoveBefore, true})
}

func TestManyLines(t *testing.T) {
	n := api.MaxRunes / 4
	l := lines(strings.Repeat("a.\n\n", n) + " b")
	first, last := at(0, 0), at(2*n, 1)
	for _, w := range []struct {
		key rune
		p   api.Pos
		to  answer
	}{
		{'w', first, answer{last, api.MoveBefore, true}}, {'W', first, answer{last, api.MoveBefore, true}}, {'b', last, answer{first, api.MoveBefore, true}}, {'B', last, answer{first, api.MoveBefore, true}},
		{'e', first, answer{last, api.MoveOn, true}}, {'E', first, answer{last, api.MoveOn, true}},
		{'}', first, answer{last, api.MoveBefore, true}}, {'{', last, answer{first, api.MoveBefore, true}}, {')', first, answer{last, api.MoveBefore, true}}, {'(', last, answer{first, api.MoveBefore, true}},
		{'G', first, answer{last, api.MoveLine, true}}, {'g', first, answer{last, api.MoveLine, true}}, {'j', first, no(first)}, {'k', last, no(last)}, {'+', first, no(first)}, {'-', last, no(last)}, {'_', first, no(first)}, {'$', first, no(first)},
	} {
		wantMove(t, l, w.p, api.Motion{Key: w.key, Count: math.MaxInt, Want: -1}, false, w.to)
	}
	for _, w := range []struct {
		key   rune
		p     api.Pos
		count int
		to    answer
	}{
		{'j', first, 2 * n, answer{at(2*n, 1), api.MoveLine, true}}, {'k', last, 2 * n, answer{at(0, 1), api.MoveLine, true}}, {'+', first, 2 * n, answer{last, api.MoveLine, true}}, {'-', last, 2 * n, answer{first, api.MoveLine, true}},
		{'_', first, 2*n + 1, answer{last, api.MoveLine, true}}, {'$', first, 2*n + 1, answer{last, api.MoveOn, true}}, {'G', first, 2*n + 1, answer{last, api.MoveLine, true}}, {'g', first, 2 * n, answer{at(2*n-1, 0), api.MoveLine, true}},
		{'w', first, 3 * n, answer{last, api.MoveBefore, true}}, {'w', first, 3*n - 1, answer{at(2*n-1, 0), api.MoveBefore, true}},
	} {
		m := api.Motion{Key: w.key, Count: w.count, Want: 1}
		wantMove(t, l, w.p, m, false, w.to)
		if m.Count++; strings.ContainsRune("jk+-_$", w.key) {
			wantMove(t, l, w.p, m, false, no(w.p))
		}
	}
	wantMove(t, l, first, api.Motion{Key: 'w', Count: math.MaxInt}, true, answer{at(2*n-1, 0), api.MoveBefore, true})
}

func TestManyBrackets(t *testing.T) {
	n := api.MaxRunes / 4
	for _, between := range []string{"", "\n", "]", "}\n{"} {
		l := lines(strings.Repeat("("+between, n) + strings.Repeat(between+")", n))
		first, last := at(0, 0), word.Last(l)
		wantMove(t, l, first, api.Motion{Key: '%'}, false, answer{last, api.MoveOn, true})
		wantMove(t, l, last, api.Motion{Key: '%'}, true, answer{first, api.MoveOn, true})
	}
	for _, s := range []string{"(", "(\n", "(]", "(}\n{"} {
		wantMove(t, lines(strings.Repeat(s, n)), at(0, 0), api.Motion{Key: '%'}, false, no(at(0, 0)))
	}
	back := lines(strings.Repeat(")\n", n) + ")")
	wantMove(t, back, at(n, 0), api.Motion{Key: '%'}, false, no(at(n, 0)))
	far := lines(strings.Repeat("a", n) + "(" + strings.Repeat("\n", n) + "b)")
	wantMove(t, far, at(0, 0), api.Motion{Key: '%'}, false, answer{at(n, 1), api.MoveOn, true})
}

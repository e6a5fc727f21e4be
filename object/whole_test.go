package object_test

import (
	"math"
	"math/rand"
	"reflect"
	"slices"
	"strings"
	"testing"

	"inkhorn/api"
	"inkhorn/object"
	"inkhorn/word"
)

// A second telling of the chapter: by lists of all runs, all blocks, all pairs.

// piece is a row of things of one class: the first one, the last one, and whether they part others.
type piece struct {
	from, to int
	parts    bool
}

// pieces tells a row's longest pieces of one class.
func pieces(classes []int) []piece {
	var all []piece
	for i, class := range classes {
		if i == 0 || classes[i-1] != class {
			all = append(all, piece{i, i, class == 0})
		}
		all[len(all)-1].to = i
	}
	return all
}

// byPieces tells the inner object at i of a row, or the one around it: the first one and the last one, and whether there is one.
func byPieces(classes []int, i int, around bool) (int, int, bool) {
	all := pieces(classes)
	at := slices.IndexFunc(all, func(x piece) bool { return x.from <= i && i <= x.to })
	last := at == len(all)-1
	switch x := all[at]; {
	case !around:
		return x.from, x.to, true
	case x.parts && last:
		return 0, 0, false
	case x.parts || !last && all[at+1].parts:
		return x.from, all[at+1].to, true
	case at > 0 && all[at-1].parts:
		return all[at-1].from, x.to, true
	default:
		return x.from, x.to, true
	}
}

// plainRun tells what the chapter says of w and W.
func plainRun(l [][]rune, p api.Pos, big, around bool) answer {
	if len(l[p.Line]) == 0 {
		return no
	}
	var classes []int
	for _, r := range l[p.Line] {
		classes = append(classes, word.Class(r, big))
	}
	from, to, ok := byPieces(classes, p.Col, around)
	return answer{at(p.Line, from), at(p.Line, to), api.KindChar, ok}
}

// plainBlock tells what it says of p.
func plainBlock(l [][]rune, p api.Pos, around bool) answer {
	classes := make([]int, len(l))
	for i, line := range l {
		if len(line) > 0 {
			classes[i] = 1
		}
	}
	from, to, ok := byPieces(classes, p.Line, around)
	return answer{at(from, 0), at(to, 0), api.KindLine, ok}
}

// runeAt is a rune with its place.
type runeAt struct {
	r rune
	p api.Pos
}

// runesOf tells all runes of lines.
func runesOf(l [][]rune) []runeAt {
	var all []runeAt
	for i, line := range l {
		for col, r := range line {
			all = append(all, runeAt{r, at(i, col)})
		}
	}
	return all
}

// before tells whether p is ahead of q.
func before(p, q api.Pos) bool {
	return p.Line < q.Line || p.Line == q.Line && p.Col < q.Col
}

// belonging tells the closing bracket that belongs to the first of the runes, and whether there is one: as many are closed there as opened from it on.
func belonging(all []runeAt, other rune) (api.Pos, bool) {
	opened, closed := 0, 0
	for _, x := range all {
		if x.r == all[0].r {
			opened++
		}
		if x.r == other {
			closed++
		}
		if opened == closed {
			return x.p, true
		}
	}
	return api.Pos{}, false
}

// plainBrackets tells what it says of brackets: of all opening ones up to p, from the nearest one on, the first whose closing one is not ahead of p.
func plainBrackets(l [][]rune, p api.Pos, own, other rune, around bool) answer {
	all := runesOf(l)
	for i := len(all) - 1; i >= 0; i-- {
		from := all[i].p
		if all[i].r != own || before(p, from) {
			continue
		}
		to, there := belonging(all[i:], other)
		if !there || before(to, p) {
			continue
		}
		if around {
			return answer{from, to, api.KindChar, true}
		}
		return inside(l, from, to)
	}
	return no
}

// inside tells what is between two brackets, or two quotes: of all cursor's places that are between them the first and the last.
func inside(l [][]rune, from, to api.Pos) answer {
	var between []api.Pos
	for _, p := range places(l) {
		if before(from, p) && before(p, to) {
			between = append(between, p)
		}
	}
	if len(between) == 0 {
		return no
	}
	return answer{between[0], between[len(between)-1], api.KindChar, true}
}

// plainQuotes tells what it says of quotes.
func plainQuotes(l [][]rune, p api.Pos, quote rune, around bool) answer {
	var cols []int
	for col, r := range l[p.Line] {
		if r == quote {
			cols = append(cols, col)
		}
	}
	for both := range slices.Chunk(cols, 2) {
		if len(both) < 2 || both[1] < p.Col {
			continue
		}
		from, to := at(p.Line, both[0]), at(p.Line, both[1])
		if around {
			return answer{from, to, api.KindChar, true}
		}
		return inside(l, from, to)
	}
	return no
}

// plain tells what the chapter says of a cursor's place.
func plain(l [][]rune, p api.Pos, key rune, around bool) answer {
	want := no
	switch key {
	case 'w', 'W':
		want = plainRun(l, p, key == 'W', around)
	case 'p':
		want = plainBlock(l, p, around)
	case '"', '\'', '`':
		want = plainQuotes(l, p, key, around)
	case '(', ')', 'b':
		want = plainBrackets(l, p, '(', ')', around)
	case '[', ']':
		want = plainBrackets(l, p, '[', ']', around)
	case '{', '}', 'B':
		want = plainBrackets(l, p, '{', '}', around)
	case '<', '>':
		want = plainBrackets(l, p, '<', '>', around)
	}
	if !want.ok {
		return no
	}
	return want
}

// places tells all cursor's places, in their order.
func places(l [][]rune) []api.Pos {
	var all []api.Pos
	for i, line := range l {
		for col := range max(len(line), 1) {
			all = append(all, at(i, col))
		}
	}
	return all
}

// wantWithin fails (11.2), if an inner object is not within the one around it, or leads to what is no cursor's place, or, of w and W, is not of one class, or has not p.
func wantWithin(t *testing.T, l [][]rune, p api.Pos, key rune) {
	t.Helper()
	inner, around := find(l, p, key, false), find(l, p, key, true)
	if inner.ok && around.ok && (inner.kind != around.kind || before(inner.from, around.from) || before(around.to, inner.to)) {
		t.Errorf("i%c of %q at %v: %v, but a%c: %v", key, l, p, inner, key, around)
	}
	for _, a := range []answer{inner, around} {
		if a.ok && (word.Clip(l, a.from) != a.from || word.Clip(l, a.to) != a.to || before(a.to, a.from)) {
			t.Errorf("%c of %q at %v: %v", key, l, p, a)
		}
	}
	if key != 'w' && key != 'W' {
		return
	}
	if inner.ok != (len(l[p.Line]) > 0) || inner.ok && (before(p, inner.from) || before(inner.to, p) || inner.from.Line != inner.to.Line) {
		t.Errorf("i%c of %q at %v: %v", key, l, p, inner)
	}
	for col := inner.from.Col; inner.ok && col <= inner.to.Col; col++ {
		if line := l[p.Line]; word.Class(line[col], key == 'W') != word.Class(line[p.Col], key == 'W') {
			t.Errorf("i%c of %q at %v: %v, which is of two classes", key, l, p, inner)
		}
	}
}

// wantAll fails, if any object of the keys is another one at any place, or its inner one is not within it.
func wantAll(t *testing.T, l [][]rune, keys string) {
	t.Helper()
	for _, p := range places(l) {
		for _, key := range keys {
			for _, around := range []bool{false, true} {
				if got, want := find(l, p, key, around), plain(l, p, key, around); got != want {
					t.Errorf("%c of %q at %v (around: %v): %v, not %v", key, l, p, around, got, want)
				}
			}
			wantWithin(t, l, p, key)
		}
	}
}

// eachText tells each text of up to n of the signs.
func eachText(signs string, n int) []string {
	all := []string{""}
	begin := 0
	for range n {
		size := len(all)
		for _, s := range all[begin:size] {
			for _, sign := range signs {
				all = append(all, s+string(sign))
			}
		}
		begin = size
	}
	return all
}

// 11.1, 11.2: all short texts, and texts by chance

func TestEachShortText(t *testing.T) {
	for _, s := range eachText("a. \n", 6) {
		wantAll(t, lines(s), "wW")
	}
	for _, s := range eachText("a\n", 10) {
		wantAll(t, lines(s), "p")
	}
}

func TestEachShortTextOfPairs(t *testing.T) {
	for _, kind := range kinds {
		for _, s := range eachText(kind[:2]+"\n", 7) {
			wantAll(t, lines(s), kind[2:])
		}
		for _, s := range eachText(kind[:2]+"a\n", 5) {
			wantAll(t, lines(s), kind[2:])
		}
	}
	for _, s := range eachText("\"'a\n", 6) {
		wantAll(t, lines(s), "\"'`")
	}
	for _, s := range eachText("([)]", 5) {
		wantAll(t, lines(s), "([{<")
	}
}

// chanceLines tells lines by chance.
func chanceLines(chance *rand.Rand) [][]rune {
	signs := []rune("aab_.(()))[]{}<> \t \"'`é中\x7f")
	signs = append(signs, -1, -32, 10, math.MinInt32, 0x110000)
	l := make([][]rune, 1+chance.Intn(7))
	for i := range l {
		for range chance.Intn(4) * chance.Intn(6) {
			l[i] = append(l[i], signs[chance.Intn(len(signs))])
		}
	}
	return l
}

func TestTextsByChance(t *testing.T) {
	chance := rand.New(rand.NewSource(11))
	for range 2000 {
		wantAll(t, chanceLines(chance), allKeys)
	}
}

// R4: what is handed in

func TestLinesStayAsTheyAre(t *testing.T) {
	whole := lines("A. (b) c!\" D \"e'  xx\n  {xx\n[<xx\n\tf}. ]>'G'`  `xx\nbehind the list's end")
	l := whole[:4]
	for i := range l { // two runes of each lie behind its end
		l[i] = l[i][:len(l[i])-2]
	}
	copied := func() (long []int, all [][]rune) {
		for _, line := range whole {
			long, all = append(long, len(line)), append(all, slices.Clone(line[:cap(line)]))
		}
		return long, all
	}
	longThen, then := copied()
	for line := -1; line < 6; line++ {
		for col := -1; col < 20; col++ {
			for _, key := range allKeys + "x" {
				object.Find(l, at(line, col), key, false)
				object.Find(l, at(line, col), key, true)
			}
		}
	}
	if long, now := copied(); !reflect.DeepEqual(then, now) || !slices.Equal(longThen, long) {
		t.Error("the lines are others now")
	}
}

// R1: large inputs

// wantFind fails, if an object is another one.
func wantFind(t *testing.T, l [][]rune, p api.Pos, key rune, inner, around answer) {
	t.Helper()
	if got := find(l, p, key, false); got != inner {
		t.Errorf("i%c of %d lines at %v: %v, not %v", key, len(l), p, got, inner)
	}
	if got := find(l, p, key, true); got != around {
		t.Errorf("a%c of %d lines at %v: %v, not %v", key, len(l), p, got, around)
	}
}

// chars tells the answer of runes.
func chars(from, to api.Pos) answer {
	return answer{from, to, api.KindChar, true}
}

// lined tells the answer of lines.
func lined(from, to int) answer {
	return answer{at(from, 0), at(to, 0), api.KindLine, true}
}

func TestALongLine(t *testing.T) {
	n := api.MaxRunes / 4
	l := lines(strings.Repeat("a", n) + strings.Repeat(" ", n) + "." + strings.Repeat("b", n))
	first := chars(at(0, 0), at(0, n-1))
	for _, col := range []int{0, n / 2, n - 1} {
		wantFind(t, l, at(0, col), 'w', first, chars(at(0, 0), at(0, 2*n-1)))
		wantFind(t, l, at(0, n+col), 'w', chars(at(0, n), at(0, 2*n-1)), chars(at(0, n), at(0, 2*n)))
		wantFind(t, l, at(0, n+col), 'W', chars(at(0, n), at(0, 2*n-1)), chars(at(0, n), at(0, 3*n)))
		wantFind(t, l, at(0, 2*n+1+col), 'w', chars(at(0, 2*n+1), at(0, 3*n)), chars(at(0, 2*n+1), at(0, 3*n)))
		wantFind(t, l, at(0, 2*n+1+col), 'W', chars(at(0, 2*n), at(0, 3*n)), chars(at(0, n), at(0, 3*n)))
		for _, key := range "([{<\"'`x" {
			wantFind(t, l, at(0, col), key, no, no)
		}
		wantFind(t, l, at(0, col), 'p', lined(0, 0), lined(0, 0))
	}
	quotes := lines(strings.Repeat(`"a" `, n) + `"`)
	wantFind(t, quotes, at(0, 4*n-1), '"', no, no)
	wantFind(t, quotes, at(0, 4*n-2), '"', chars(at(0, 4*n-3), at(0, 4*n-3)), chars(at(0, 4*n-4), at(0, 4*n-2)))
	wantFind(t, quotes, at(0, 0), '"', chars(at(0, 1), at(0, 1)), chars(at(0, 0), at(0, 2)))
	wantFind(t, lines(`"`+strings.Repeat("a", 3*n)+`"`), at(0, n), '"', chars(at(0, 1), at(0, 3*n)), chars(at(0, 0), at(0, 3*n+1)))
}

func TestManyLines(t *testing.T) {
	n := api.MaxRunes / 8
	l := lines(strings.Repeat("a\n", n) + strings.Repeat("\n", n) + strings.Repeat("b\n", n) + "c")
	for _, i := range []int{0, n / 2, n - 1} {
		wantFind(t, l, at(i, 0), 'p', lined(0, n-1), lined(0, 2*n-1))
		wantFind(t, l, at(n+i, 0), 'p', lined(n, 2*n-1), lined(n, 3*n))
		wantFind(t, l, at(2*n+i, 0), 'p', lined(2*n, 3*n), lined(n, 3*n))
		wantFind(t, l, at(n+i, 0), 'w', no, no)
		for _, key := range "([{<\"'`x" {
			wantFind(t, l, at(2*n+i, 0), key, no, no)
		}
	}
	empty := lines(strings.Repeat("\n", n))
	wantFind(t, empty, at(n/2, 0), 'p', lined(0, n), no)
	wantFind(t, empty, at(n/2, 0), '(', no, no)
}

func TestManyBrackets(t *testing.T) {
	n := api.MaxRunes / 4
	for _, kind := range kinds {
		own, other, key := kind[:1], kind[1:2], rune(kind[len(kind)-1])
		for _, between := range []string{"a", "a\n"} {
			l := lines(strings.Repeat(own+between, n) + strings.Repeat(between+other, n))
			first, last := at(0, 0), word.Last(l)
			from, to := at(0, 1), at(last.Line, last.Col-1) // an a is behind the first one, ahead of the last one an a or a line's end
			if to.Col < 0 {
				to = word.Last(l[:last.Line])
			}
			for _, p := range []api.Pos{first, from, to, last} {
				wantFind(t, l, p, key, chars(from, to), chars(first, last))
			}
		}
		for _, s := range []string{own, own + "\n", "a" + own} { // none is closed
			l := lines(strings.Repeat(s, n))
			for _, p := range []api.Pos{at(0, 0), at(n/2, n/2), word.Last(l)} {
				wantFind(t, l, p, key, no, no)
			}
		}
		for _, s := range []string{other, other + "\n", own + other, own + "\n" + other + "\n"} { // none is left open
			l := lines(strings.Repeat(s, n) + "a")
			wantFind(t, l, word.Last(l), key, no, no)
		}
		l := lines(strings.Repeat(own, n) + strings.Repeat(own+other, n) + "a" + strings.Repeat(other, n))
		wantFind(t, l, at(0, 3*n), key, chars(at(0, n), at(0, 3*n)), chars(at(0, n-1), at(0, 3*n+1)))
	}
}

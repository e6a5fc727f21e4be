package oper_test

import (
	"math/rand"
	"reflect"
	"slices"
	"strings"
	"testing"
	"unicode"

	"inkhorn/api"
	"inkhorn/oper"
	"inkhorn/undo"
)

// A second telling of the chapter: by each rune, and by the row of runes that lines are.

// isThere tells whether a cursor may stand at a place.
func isThere(l [][]rune, p api.Pos) bool {
	if p.Line < 0 || p.Line >= len(l) || p.Col < 0 {
		return false
	}
	return p.Col < len(l[p.Line]) || p.Col == 0
}

// nearest tells the cursor's place that is nearest, by steps.
func nearest(l [][]rune, p api.Pos) api.Pos {
	for p.Line >= len(l) {
		p.Line--
	}
	for p.Line < 0 {
		p.Line++
	}
	for p.Col > 0 && p.Col >= len(l[p.Line]) {
		p.Col--
	}
	return at(p.Line, max(p.Col, 0))
}

// order tells a number that rises from place to place.
func order(p api.Pos) int {
	return p.Line*1000 + p.Col
}

// has tells whether a region has the rune at a place; behind a line's last rune, whether it has the line's end.
func has(l [][]rune, r api.Region, p api.Pos) bool {
	from, to := order(r.From), order(r.To)
	top, bottom := min(r.From.Line, r.To.Line), max(r.From.Line, r.To.Line)
	isEnd := p.Col == len(l[p.Line])
	switch r.Kind {
	case char:
		if isEnd {
			return top <= p.Line && p.Line < bottom
		}
		return min(from, to) <= order(p) && order(p) <= max(from, to)
	case whole:
		return top <= p.Line && p.Line <= bottom
	}
	return !isEnd && top <= p.Line && p.Line <= bottom && min(r.From.Col, r.To.Col) <= p.Col && p.Col <= max(r.From.Col, r.To.Col)
}

// firstOf tells the place of a line's first rune that is not blank.
func firstOf(l [][]rune, line int) api.Pos {
	for col, r := range l[line] {
		if r != ' ' && r != '\t' {
			return at(line, col)
		}
	}
	return nearest(l, at(line, 1000))
}

// errorOf tells which error a region is.
func errorOf(l [][]rune, r api.Region) api.Errno {
	switch {
	case r.Kind < 0 || r.Kind > 2:
		return api.ErrArg
	case !isThere(l, r.From) || !isThere(l, r.To):
		return api.ErrRange
	}
	return api.OK
}

// plainTake tells what Take does, as told spells it: bars are the line ends that a region of characters has.
func plainTake(l [][]rune, r api.Region) string {
	var taken []string
	for i, line := range l {
		if i < min(r.From.Line, r.To.Line) || i > max(r.From.Line, r.To.Line) {
			continue
		}
		row := ""
		for j, x := range line {
			if has(l, r, at(i, j)) {
				row += string(x)
			}
		}
		taken = append(taken, row)
	}
	return strings.Join(taken, "|")
}

// plainCut tells what Cut does: the row of runes without those that the region has.
func plainCut(l [][]rune, r api.Region) answer {
	row := ""
	for i, line := range l {
		for j, x := range line {
			if !has(l, r, at(i, j)) {
				row += string(x)
			}
		}
		if !has(l, r, at(i, len(line))) {
			row += "|"
		}
	}
	if row != "" {
		row = row[:len(row)-1] // the last line has no end behind it, or the one ahead of the region
	}
	cut, top := lines(row), min(r.From.Line, r.To.Line)
	p := at(top, min(r.From.Col, r.To.Col))
	switch r.Kind {
	case char:
		p = r.From
		if order(r.To) < order(p) {
			p = r.To
		}
	case whole:
		return answer{row, firstOf(cut, nearest(cut, at(top, 0)).Line), api.OK}
	}
	return answer{row, nearest(cut, p), api.OK}
}

// plainTurn tells what Turn does.
func plainTurn(l [][]rune, r api.Region, how rune) answer {
	var all []string
	for i, line := range l {
		row := ""
		for j, x := range line {
			if has(l, r, at(i, j)) && x < 128 {
				switch {
				case how == 'u', how == '~' && unicode.IsUpper(x):
					x = unicode.ToLower(x)
				default:
					x = unicode.ToUpper(x)
				}
			}
			row += string(x)
		}
		all = append(all, row)
	}
	return answer{strings.Join(all, "|"), api.Pos{}, api.OK}
}

// wantRegion fails, if Take, Cut or Turn tell something else of a region than the second telling.
func wantRegion(t *testing.T, l [][]rune, r api.Region) {
	t.Helper()
	g, err := oper.Take(l, r)
	took := answer{told(g.Lines), api.Pos{Line: g.Kind}, err}
	cut := of(oper.Cut(l, r))
	bad := errorOf(l, r)
	if bad != api.OK {
		want(t, "Take", took, none(bad))
		want(t, "Cut", cut, none(bad))
	} else {
		want(t, "Take", took, answer{plainTake(l, r), api.Pos{Line: r.Kind}, api.OK})
		want(t, "Cut", cut, plainCut(l, r))
	}
	for _, how := range "~uU" {
		turned, err := oper.Turn(l, r, how)
		got := of(turned, api.Pos{}, err)
		if bad != api.OK {
			want(t, "Turn", got, none(bad))
		} else {
			want(t, "Turn", got, plainTurn(l, r, how))
		}
	}
	if t.Failed() {
		t.Fatalf("of %q and %v", told(l), r)
	}
}

// allTexts hands on all texts of at most so many runes of a row of them, line ends among them.
func allTexts(most int, runes string, do func(l [][]rune)) {
	var grow func(spelt string, left int)
	grow = func(spelt string, left int) {
		do(lines(spelt))
		if left == 0 {
			return
		}
		for _, r := range runes {
			grow(spelt+string(r), left-1)
		}
	}
	grow("", most)
}

// places tells all places of lines, and some that are none.
func places(l [][]rune) []api.Pos {
	var all []api.Pos
	for i := -1; i <= len(l); i++ {
		n := 0
		if 0 <= i && i < len(l) {
			n = len(l[i])
		}
		for j := -1; j <= n+1; j++ {
			all = append(all, at(i, j))
		}
	}
	return all
}

// All regions of all short texts.
func TestAllShortRegions(t *testing.T) {
	allTexts(4, "aB |", func(l [][]rune) {
		for _, from := range places(l) {
			for _, to := range places(l) {
				for kind := -1; kind <= 3; kind++ {
					wantRegion(t, l, api.Region{From: from, To: to, Kind: kind})
				}
			}
		}
	})
}

// plainPaste tells what Paste does.
func plainPaste(l [][]rune, p api.Pos, g api.Reg, behind bool, n int) answer {
	if g.Kind < 0 || g.Kind > 2 || len(g.Lines) == 0 {
		return none(api.ErrArg)
	}
	if len(l) == 0 {
		return none(api.ErrRange)
	}
	p, n = nearest(l, p), max(n, 1)
	column, next := p.Col, p.Line
	if behind {
		next++
		if len(l[p.Line]) > 0 {
			column++
		}
	}
	switch g.Kind {
	case whole:
		all := strings.Split(told(l), "|")
		all = slices.Insert(all, next, strings.Split(strings.Repeat(told(g.Lines)+"|", n), "|")[:n*len(g.Lines)]...)
		row := strings.Join(all, "|")
		return answer{row, firstOf(lines(row), next), api.OK}
	case block:
		return plainPasteBlock(l, at(p.Line, column), g.Lines, n)
	}
	all := strings.Split(told(l), "|")
	line := []rune(all[p.Line])
	put := strings.Repeat(told(g.Lines), n)
	all[p.Line] = string(line[:column]) + put + string(line[column:])
	row := strings.Join(all, "|")
	switch {
	case put == "":
		return answer{row, p, api.OK}
	case len(g.Lines) == 1:
		return answer{row, at(p.Line, column+len([]rune(put))-1), api.OK}
	}
	return answer{row, nearest(lines(row), at(p.Line, column)), api.OK}
}

// plainPasteBlock tells what Paste does with a block: rune by rune, on lines that blanks make long enough.
func plainPasteBlock(l [][]rune, p api.Pos, g [][]rune, n int) answer {
	wide := 0
	for _, line := range g {
		wide = max(wide, len(line))
	}
	all := strings.Split(told(l), "|")
	for i, line := range g {
		to := p.Line + i
		if to == len(all) {
			all = append(all, "")
		}
		old := []rune(all[to])
		for len(old) < p.Col {
			old = append(old, ' ')
		}
		for len(line) < wide {
			line = append(line[:len(line):len(line)], ' ')
		}
		for range n {
			old = slices.Insert(old, p.Col, line...)
		}
		all[to] = string(old)
	}
	row := strings.Join(all, "|")
	return answer{row, nearest(lines(row), p), api.OK}
}

// All short registers put at all places of short texts.
func TestAllShortPastes(t *testing.T) {
	allTexts(3, "a |", func(l [][]rune) {
		allTexts(3, "x |", func(held [][]rune) {
			for _, p := range places(l) {
				for kind := -1; kind <= 3; kind++ {
					wantPaste(t, l, p, api.Reg{Kind: kind, Lines: held}, p.Line*p.Col%3)
				}
			}
		})
	})
}

// wantPaste fails, if Paste tells something else than the second telling.
func wantPaste(t *testing.T, l [][]rune, p api.Pos, g api.Reg, n int) {
	t.Helper()
	for _, behind := range []bool{true, false} {
		got, want := of(oper.Paste(l, p, g, behind, n)), plainPaste(l, p, g, behind, n)
		if got != want {
			t.Fatalf("Paste(%q, %v, %q of kind %d, %t, %d): %v, not %v", told(l), p, told(g.Lines), g.Kind, behind, n, got, want)
		}
	}
}

// plainShift tells what Shift does.
func plainShift(l [][]rune, from, to, by int) answer {
	if by < -64 || by > 64 {
		return none(api.ErrArg)
	}
	if from < 0 || to < from || to >= len(l) {
		return none(api.ErrRange)
	}
	all := strings.Split(told(l), "|")
	for i := from; i <= to; i++ {
		if by > 0 && all[i] != "" {
			all[i] = strings.Repeat(" ", by) + all[i]
		}
		for n := by; n < 0 && (strings.HasPrefix(all[i], " ") || strings.HasPrefix(all[i], "\t")); n++ {
			all[i] = all[i][1:]
		}
	}
	return answer{strings.Join(all, "|"), api.Pos{}, api.OK}
}

// plainJoin tells what Join does: two lines at a time.
func plainJoin(l [][]rune, line, n int) answer {
	n = max(n, 2)
	if line < 0 || line+n > len(l) {
		return none(api.ErrRange)
	}
	all := strings.Split(told(l), "|")
	column := 0
	for range n - 1 {
		ahead, next := all[line], strings.TrimLeft(all[line+1], " \t")
		column = len([]rune(ahead))
		if next != "" && next[0] != ')' && ahead != "" && !strings.ContainsAny(ahead[len(ahead)-1:], " \t") {
			next = " " + next
		}
		all[line] = ahead + next
		all = slices.Delete(all, line+1, line+2)
	}
	row := strings.Join(all, "|")
	return answer{row, nearest(lines(row), at(line, column)), api.OK}
}

// plainOver tells what Over does, r a letter or 10.
func plainOver(l [][]rune, p api.Pos, r rune, n int) answer {
	if len(l) == 0 {
		return none(api.ErrRange)
	}
	p, n = nearest(l, p), max(n, 1)
	if p.Col+n > len(l[p.Line]) {
		return none(api.ErrRange)
	}
	all := strings.Split(told(l), "|")
	line := []rune(all[p.Line])
	put, to := strings.Repeat(string(r), n), at(p.Line, p.Col+n-1)
	if r == 10 {
		put, to = "|", at(p.Line+1, 0)
	}
	all[p.Line] = string(line[:p.Col]) + put + string(line[p.Col+n:])
	return answer{strings.Join(all, "|"), to, api.OK}
}

// Shift, Join and Over with all short numbers on all short texts.
func TestAllShortLines(t *testing.T) {
	allTexts(5, "a )|", func(l [][]rune) {
		for line := -1; line <= len(l); line++ {
			for n := -2; n <= len(l)+1; n++ {
				got, err := oper.Shift(l, line, line+1, n)
				want(t, "Shift", of(got, api.Pos{}, err), plainShift(l, line, line+1, n))
				want(t, "Join", of(oper.Join(l, line, n)), plainJoin(l, line, n))
			}
		}
		for _, p := range places(l) {
			for n := -1; n <= 4; n++ {
				want(t, "Over", of(oper.Over(l, p, 'x', n)), plainOver(l, p, 'x', n))
				want(t, "Over by 10", of(oper.Over(l, p, 10, n)), plainOver(l, p, 10, n))
			}
		}
		if t.Failed() {
			t.Fatalf("of %q", told(l))
		}
	})
}

// plainDiff tells the same as Diff: of all changes that make b of a the one that begins last, of those the one with the fewest lines.
func plainDiff(a, b [][]rune) api.Change {
	for from := min(len(a), len(b)); ; from-- {
		for end := min(len(a), len(b)) - from; end >= 0; end-- {
			if told(a[:from]) == told(b[:from]) && told(a[len(a)-end:]) == told(b[len(b)-end:]) {
				return api.Change{At: from, Old: a[from : len(a)-end], New: b[from : len(b)-end]}
			}
		}
	}
}

// wantDiff fails, if Diff tells something else than the second telling, or if what is done by it is not b.
func wantDiff(t *testing.T, a, b [][]rune) {
	t.Helper()
	got, want := oper.Diff(a, b), plainDiff(a, b)
	if got.At != want.At || told(got.Old) != told(want.Old) || told(got.New) != told(want.New) {
		t.Fatalf("Diff(%q, %q): %v, not %v", told(a), told(b), got, want)
	}
	if len(b) > 0 {
		if l, err := undo.Do(a, got); err != api.OK || told(l) != told(b) {
			t.Fatalf("Diff(%q, %q), done: %q, %d", told(a), told(b), told(l), err)
		}
	}
}

// 13.6, by all short lists of lines.
func TestAllShortDiffs(t *testing.T) {
	var all [][][]rune
	allTexts(4, "ab", func(l [][]rune) {
		var list [][]rune
		for _, r := range l[0] { // each rune a line: an a, or an empty one
			list = append(list, []rune(strings.Trim(string(r), "b")))
		}
		all = append(all, list)
	})
	for _, a := range all {
		for _, b := range all {
			wantDiff(t, a, b)
		}
	}
}

// someRunes are those that lines by chance have.
var someRunes = []rune("aaBzZ  \t).界\u0301é@[`{")

// anyLines tells lines by chance: of few kinds of runes, some empty.
func anyLines(rnd *rand.Rand, most int) [][]rune {
	var l [][]rune
	for range 1 + rnd.Intn(most) {
		var line []rune
		for range rnd.Intn(8) {
			line = append(line, someRunes[rnd.Intn(len(someRunes))])
		}
		l = append(l, line)
	}
	return l
}

// anyPlace tells a place by chance: mostly a cursor's place.
func anyPlace(rnd *rand.Rand, l [][]rune) api.Pos {
	if rnd.Intn(20) == 0 {
		return at(rnd.Intn(len(l)+4)-2, rnd.Intn(12)-2)
	}
	line := rnd.Intn(len(l))
	return at(line, rnd.Intn(max(len(l[line]), 1)))
}

// All calls by chance.
func TestCallsByChance(t *testing.T) {
	rnd := rand.New(rand.NewSource(13))
	for range 30000 {
		l := anyLines(rnd, 6)
		p := anyPlace(rnd, l)
		wantRegion(t, l, api.Region{From: p, To: anyPlace(rnd, l), Kind: rnd.Intn(3)})
		wantPaste(t, l, p, api.Reg{Kind: rnd.Intn(3), Lines: anyLines(rnd, 4)}, rnd.Intn(5)-1)
		from, by, n := p.Line, rnd.Intn(14)-7, rnd.Intn(6)
		got, err := oper.Shift(l, from, from+n, by)
		want(t, "Shift", of(got, api.Pos{}, err), plainShift(l, from, from+n, by))
		want(t, "Join", of(oper.Join(l, from, n)), plainJoin(l, from, n))
		want(t, "Over", of(oper.Over(l, p, 'y', n)), plainOver(l, p, 'y', n))
		want(t, "Over by 10", of(oper.Over(l, p, 10, n)), plainOver(l, p, 10, n))
		wantDiff(t, l, anyLines(rnd, 6))
		if t.Failed() {
			t.Fatalf("of %q, %v, %d, %d", told(l), p, n, by)
		}
	}
}

// 13.6: what was cut, and what is left, seen as one row of runes; and Diff of what was done by chance.
func TestWhatFollows(t *testing.T) {
	rnd := rand.New(rand.NewSource(136))
	for range 20000 {
		l := anyLines(rnd, 6)
		r := api.Region{From: anyPlace(rnd, l), To: anyPlace(rnd, l), Kind: rnd.Intn(3)}
		cut, p, err := oper.Cut(l, r)
		if err != api.OK {
			continue
		}
		wantDiff(t, l, cut)
		wantDiff(t, cut, l)
		if r.Kind != char {
			continue
		}
		g, _ := oper.Take(l, r)
		first := r.From
		if order(r.To) < order(first) {
			first = r.To
		}
		ahead := len([]rune(told(append(slices.Clone(l[:first.Line]), l[first.Line][:first.Col]))))
		row, taken, left := []rune(told(l)), []rune(told(g.Lines)), []rune(told(cut))
		if !slices.Equal(row[ahead:ahead+len(taken)], taken) || !slices.Equal(slices.Delete(row, ahead, ahead+len(taken)), left) {
			t.Fatalf("of %q and %v: %q taken, %q left", told(l), r, string(taken), string(left))
		}
		if p != nearest(cut, first) {
			t.Fatalf("Cut(%q, %v): %v", told(l), r, p)
		}
	}
}

// calls are all calls, with what a test gives them.
func calls(l, held [][]rune) []func() [][]rune {
	var all []func() [][]rune
	for kind := range 3 {
		r := region(kind, 0, 1, 2, 0)
		all = append(all,
			func() [][]rune { g, _ := oper.Take(l, r); return g.Lines },
			func() [][]rune { l, _, _ := oper.Cut(l, r); return l },
			func() [][]rune { l, _ := oper.Turn(l, r, '~'); return l },
			func() [][]rune { l, _, _ := oper.Paste(l, r.From, api.Reg{Kind: kind, Lines: held}, true, 1); return l },
			func() [][]rune { l, _, _ := oper.Paste(l, r.To, api.Reg{Kind: kind, Lines: held}, false, 3); return l },
		)
	}
	return append(all,
		func() [][]rune { l, _ := oper.Shift(l, 0, 2, 3); return l },
		func() [][]rune { l, _ := oper.Shift(l, 0, 2, -1); return l },
		func() [][]rune { l, _ := oper.Shift(l, 0, 2, 0); return l },
		func() [][]rune { l, _, _ := oper.Join(l, 0, 3); return l },
		func() [][]rune { l, _, _ := oper.Join(l, 1, 2); return l },
		func() [][]rune { l, _, _ := oper.Over(l, at(0, 1), 'y', 2); return l },
		func() [][]rune { l, _, _ := oper.Over(l, at(0, 1), 10, 2); return l },
		func() [][]rune { c := oper.Diff(l, held); return append(c.Old, c.New...) },
		func() [][]rune { c := oper.Diff(nil, held); return append(c.Old, c.New...) },
	)
}

// deep copies lines with what lies behind each one's end, and behind the list's.
func deep(l [][]rune) [][]rune {
	var all [][]rune
	for _, line := range l[:cap(l)] {
		all = append(all, slices.Clone(line[:cap(line)]))
	}
	return all
}

// roomy tells lines that have room behind each one's end, and behind the list's.
func roomy(spelt string) [][]rune {
	row := lines(spelt)
	l := make([][]rune, 0, len(row)+3)
	for _, line := range row {
		l = append(l, append(make([]rune, 0, len(line)+9), line...))
	}
	return l
}

// R4: what is handed in is not changed, what lies behind its ends, too; what is told is new, and no two lines of it share any.
func TestWhatIsHandedInAndOut(t *testing.T) {
	l, held := roomy(" aBc| dE|  fgH|i"), roomy("xy|z|")
	wasL, wasHeld := deep(l), deep(held)
	for i, call := range calls(l, held) {
		first := call()
		want := told(first)
		if len(first) == 0 {
			t.Fatalf("call %d tells nothing", i)
		}
		for j, line := range first {
			for k := range line[:cap(line)] {
				line[:cap(line)][k] = rune('0' + j)
			}
		}
		for j, line := range first {
			for _, r := range line {
				if r != rune('0'+j) {
					t.Errorf("call %d: two of its lines share memory", i)
				}
			}
		}
		clear(first[:cap(first)])
		if !reflect.DeepEqual(deep(l), wasL) || !reflect.DeepEqual(deep(held), wasHeld) {
			t.Fatalf("call %d: what was handed in is changed", i)
		}
		if got := told(call()); got != want {
			t.Errorf("call %d tells %q, then %q", i, want, got)
		}
	}
}

// What is handed in may be changed when a call has answered.
func TestWhatIsHandedInIsNotKept(t *testing.T) {
	for i := range calls(nil, nil) {
		l, held := roomy(" aBc| dE|  fgH|i"), roomy("xy|z|")
		got := calls(l, held)[i]()
		want := told(got)
		for _, all := range [][][]rune{l, held} {
			for j, line := range all {
				for k := range line {
					line[k] = '!'
				}
				all[j] = []rune{'?'}
			}
		}
		if told(got) != want {
			t.Errorf("call %d: %q has become %q", i, want, told(got))
		}
	}
}

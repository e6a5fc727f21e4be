package text_test

import (
	"math"
	"slices"
	"strings"
	"testing"

	"inkhorn/api"
	"inkhorn/text"
)

// lines tells the lines of a string, one 10 between each two.
func lines(s string) [][]rune {
	var l [][]rune
	for _, line := range strings.Split(s, "\n") {
		l = append(l, []rune(line))
	}
	return l
}

// empties tells n empty lines.
func empties(n int) [][]rune {
	return make([][]rune, n)
}

// many tells n runes, none of them 10, no two neighbours the same.
func many(n int) []rune {
	l := make([]rune, n)
	for i := range l {
		l[i] = rune(100 + i%1009)
	}
	return l
}

// same tells whether two lists of lines are the same.
func same(a, b [][]rune) bool {
	return slices.EqualFunc(a, b, func(l, m []rune) bool { return slices.Equal(l, m) })
}

// made makes a text of lines, and fails, if there is none.
func made(t *testing.T, l [][]rune) *text.Text {
	t.Helper()
	x := text.New(l)
	if x == nil {
		t.Fatalf("New of %d lines is nil", len(l))
	}
	return x
}

// wantText fails, if the text's lines are others, or its counts.
func wantText(t *testing.T, x *text.Text, l [][]rune) {
	t.Helper()
	if got := x.All(); !same(got, l) {
		t.Fatalf("All is %d lines, %.200q, not %d, %.200q", len(got), got, len(l), l)
	}
	if x.Count() != len(l) {
		t.Fatalf("Count is %d, not %d", x.Count(), len(l))
	}
	runes := len(l) - 1
	for i, line := range l {
		runes += len(line)
		wantLine(t, x, i, line, api.OK)
	}
	if x.Runes() != runes {
		t.Fatalf("Runes is %d, not %d", x.Runes(), runes)
	}
}

// wantLine fails, if another line, or another error, is told.
func wantLine(t *testing.T, x *text.Text, i int, l []rune, e api.Errno) {
	t.Helper()
	if got, f := x.Line(i); f != e || !slices.Equal(got, l) {
		t.Fatalf("Line(%d) is %.200q (%d), not %.200q (%d)", i, string(got), f, string(l), e)
	}
}

// wantOffset fails, if another number, or another error, is told.
func wantOffset(t *testing.T, x *text.Text, p api.Pos, n int, e api.Errno) {
	t.Helper()
	if got, f := x.Offset(p); f != e || got != n {
		t.Fatalf("Offset(%v) is %d (%d), not %d (%d)", p, got, f, n, e)
	}
}

// wantPlace fails, if another place, or another error, is told.
func wantPlace(t *testing.T, x *text.Text, n int, p api.Pos, e api.Errno) {
	t.Helper()
	if got, f := x.Place(n); f != e || got != p {
		t.Fatalf("Place(%d) is %v (%d), not %v (%d)", n, got, f, p, e)
	}
}

// wantPlaces fails, if Offset or Place is answered otherwise at any place of the text.
func wantPlaces(t *testing.T, x *text.Text, l [][]rune) {
	t.Helper()
	n := 0
	for i, line := range l {
		for col := 0; col <= len(line); col++ {
			wantOffset(t, x, api.Pos{Line: i, Col: col}, n, api.OK)
			wantPlace(t, x, n, api.Pos{Line: i, Col: col}, api.OK)
			n++
		}
		wantOffset(t, x, api.Pos{Line: i, Col: len(line) + 1}, 0, api.ErrRange)
	}
	wantPlace(t, x, n, api.Pos{}, api.ErrRange)
}

// someTexts are texts with an empty line, or none, in each place.
var someTexts = []string{"", "a", "abc", "\n", "ab\n", "\nab", "a\nb", "ab\n\ncde", "\n\n\n", "ab\ncde\nf\n", "\nab\n\n\ncde\nf"}

// 4.1

func TestTheExample(t *testing.T) {
	x := made(t, lines("ab\nc"))
	if x.Runes() != 4 {
		t.Fatalf("Runes is %d", x.Runes())
	}
	wantOffset(t, x, api.Pos{Line: 1, Col: 0}, 3, api.OK)
	wantPlace(t, x, 2, api.Pos{Line: 0, Col: 2}, api.OK)
	wantInsert(t, x, api.Pos{Line: 0, Col: 1}, []rune{'x', 10}, api.OK)
	wantText(t, x, lines("ax\nb\nc"))
	wantDelete(t, x, api.Pos{Line: 0, Col: 2}, api.Pos{Line: 1, Col: 0}, api.OK)
	wantText(t, x, lines("axb\nc"))
	wantReplace(t, x, 0, 2, nil, api.OK)
	wantText(t, x, lines(""))
}

func TestNewTellsWhatItWasMadeOf(t *testing.T) {
	for _, s := range someTexts {
		wantText(t, made(t, lines(s)), lines(s))
	}
	for _, n := range []int{2, 255, 256, 257, 511, 512, 513, 5000, api.MaxRunes + 1} {
		x := made(t, empties(n))
		if x.Count() != n || x.Runes() != n-1 || len(x.All()) != n {
			t.Errorf("of %d empty lines, Count is %d, Runes is %d, All has %d", n, x.Count(), x.Runes(), len(x.All()))
		}
		wantLine(t, x, n-1, nil, api.OK)
		wantLine(t, x, n, nil, api.ErrRange)
	}
}

func TestNewOfNoLines(t *testing.T) {
	for _, l := range [][][]rune{nil, {}, {nil}, {{}}} {
		x := made(t, l)
		wantText(t, x, lines(""))
		wantPlaces(t, x, lines(""))
		wantLine(t, x, 1, nil, api.ErrRange)
		wantInsert(t, x, api.Pos{}, []rune("a"), api.OK)
		wantText(t, x, lines("a"))
	}
}

func TestNewOfALineEnd(t *testing.T) {
	for _, l := range [][][]rune{{{10}}, {{'a', 10}}, {{10, 'a'}}, {{'a'}, nil, {'b', 10, 'c'}}, {{'a'}, {10}, {'b'}}, append(empties(300), []rune{10})} {
		if text.New(l) != nil {
			t.Errorf("New of %d lines with a 10 is not nil", len(l))
		}
	}
}

func TestNewUpToMaxRunes(t *testing.T) {
	const most = api.MaxRunes
	for _, l := range [][][]rune{{many(most)}, {many(most - 1), nil}, {nil, many(most - 2), nil}, {many(1000), many(most - 1001)}, empties(most + 1)} {
		x := made(t, l)
		if x.Runes() != most || x.Count() != len(l) || !same(x.All(), l) {
			t.Errorf("of %d lines of MaxRunes, Runes is %d, Count is %d", len(l), x.Runes(), x.Count())
		}
	}
	for _, l := range [][][]rune{{many(most + 1)}, {many(most), nil}, {nil, many(most - 1), nil}, {many(1000), many(most - 1000)}, empties(most + 2), {append(many(most), 10)}} {
		if text.New(l) != nil {
			t.Errorf("New of %d lines of one more than MaxRunes is not nil", len(l))
		}
	}
}

func TestAnyOtherRunesAreKept(t *testing.T) {
	l := [][]rune{{0, 9, 11, 13, -1}, {math.MinInt32, math.MaxInt32}, {0xD800, 0x110000, 0x301, 0x2028, -10}}
	x := made(t, l)
	wantText(t, x, l)
	wantInsert(t, x, api.Pos{Line: 1, Col: 1}, l[0], api.OK)
	wantReplace(t, x, 0, 1, l[2:], api.OK)
	wantText(t, x, [][]rune{l[2], {math.MinInt32, 0, 9, 11, 13, -1, math.MaxInt32}, l[2]})
}

func TestLineOutOfRange(t *testing.T) {
	x := made(t, lines("ab\n\nc"))
	for _, i := range []int{-1, 3, 4, math.MinInt, math.MaxInt} {
		wantLine(t, x, i, nil, api.ErrRange)
	}
}

// 4.2

func TestOffsetAndPlaceAtEachPlace(t *testing.T) {
	for _, s := range someTexts {
		wantPlaces(t, made(t, lines(s)), lines(s))
	}
	for _, n := range []int{255, 256, 257, 1000} {
		l := empties(n)
		for i := range l {
			l[i] = many(i % 7)
		}
		wantPlaces(t, made(t, l), l)
	}
}

func TestOffsetOutOfRange(t *testing.T) {
	x := made(t, lines("ab\n\nc"))
	for _, p := range []api.Pos{
		{Line: -1}, {Line: 3}, {Line: math.MinInt}, {Line: math.MaxInt}, {Line: -1, Col: 3}, {Line: 3, Col: -1},
		{Col: -1}, {Col: 3}, {Line: 1, Col: 1}, {Line: 1, Col: -1}, {Line: 2, Col: 2}, {Line: 2, Col: math.MinInt}, {Line: 2, Col: math.MaxInt},
	} {
		wantOffset(t, x, p, 0, api.ErrRange)
	}
}

func TestPlaceOutOfRange(t *testing.T) {
	x := made(t, lines("ab\n\nc"))
	wantPlace(t, x, 0, api.Pos{}, api.OK)
	wantPlace(t, x, 5, api.Pos{Line: 2, Col: 1}, api.OK)
	for _, n := range []int{-1, 6, 7, math.MinInt, math.MaxInt} {
		wantPlace(t, x, n, api.Pos{}, api.ErrRange)
	}
}

func TestPlaceInAFullText(t *testing.T) {
	x := made(t, empties(api.MaxRunes+1))
	for n := 0; n <= api.MaxRunes; n += 97 {
		wantPlace(t, x, n, api.Pos{Line: n}, api.OK)
		wantOffset(t, x, api.Pos{Line: n}, n, api.OK)
	}
	wantPlace(t, x, api.MaxRunes, api.Pos{Line: api.MaxRunes}, api.OK)
	wantPlace(t, x, api.MaxRunes+1, api.Pos{}, api.ErrRange)
	x = made(t, [][]rune{many(api.MaxRunes)})
	wantPlace(t, x, api.MaxRunes, api.Pos{Col: api.MaxRunes}, api.OK)
	wantOffset(t, x, api.Pos{Col: api.MaxRunes}, api.MaxRunes, api.OK)
}

// Of all four

func TestNilText(t *testing.T) {
	var x *text.Text
	if x.Count() != 0 || x.Runes() != 0 || len(x.All()) != 0 {
		t.Errorf("Count, Runes and All are %d, %d, %v", x.Count(), x.Runes(), x.All())
	}
	for _, n := range []int{0, 1, -1} {
		p := api.Pos{Line: n, Col: n}
		wantLine(t, x, n, nil, api.ErrArg)
		wantOffset(t, x, p, 0, api.ErrArg)
		wantPlace(t, x, n, api.Pos{}, api.ErrArg)
		wantInsert(t, x, p, many(api.MaxRunes+1), api.ErrArg)
		wantDelete(t, x, p, api.Pos{}, api.ErrArg)
		wantSlice(t, x, p, api.Pos{}, nil, api.ErrArg)
		wantReplace(t, x, n, n, empties(api.MaxRunes+2), api.ErrArg)
	}
}

func TestWhatIsHandedInIsNotKept(t *testing.T) {
	first, added, with := lines("ab-\ncd")[:2:2], []rune("x\ny-"), lines("e-\nf\n-")
	first[0] = first[0][:2]
	with[0] = with[0][:1]
	x := made(t, first)
	wantInsert(t, x, api.Pos{Col: 1}, added[:3], api.OK)
	wantReplace(t, x, 2, 1, with[:2], api.OK)
	wantReplace(t, x, 0, 0, with[:2], api.OK)
	if string(first[0][:3]) != "ab-" || string(added) != "x\ny-" || string(with[0][:2]) != "e-" || string(with[2]) != "-" {
		t.Fatalf("what was handed in is now %q, %q, %q", first, string(added), with)
	}
	first[0][0], first[1][0], added[0], added[1], with[0][0] = '+', '+', '+', '+', '+'
	with[1] = []rune("++")
	wantText(t, x, lines("e\nf\nax\nyb\ne\nf"))
}

func TestWhatIsHandedOutIsNew(t *testing.T) {
	x := made(t, lines("abc\ndef\nghi"))
	wantInsert(t, x, api.Pos{Line: 1, Col: 1}, []rune("x"), api.OK)
	want := lines("abc\ndxef\nghi")
	spoil := func(l []rune) {
		for i := range l {
			l[i] = '-'
		}
		_ = append(l, '-', '-', '-', '-')
	}
	l, _ := x.Line(1)
	spoil(l)
	l, _ = x.Slice(api.Pos{Col: 1}, api.Pos{Line: 2, Col: 2})
	spoil(l)
	all := x.All()
	spoil(all[0])
	if string(all[1]) != "dxef" || string(all[2]) != "ghi" {
		t.Fatalf("two lines of one answer share memory: %q", all)
	}
	spoil(all[1])
	all[2] = nil
	wantText(t, x, want)
}

func TestTextsShareNothing(t *testing.T) {
	l := lines("ab\ncd")
	x, y := made(t, l), made(t, l)
	wantInsert(t, x, api.Pos{Line: 1}, []rune("x\n"), api.OK)
	wantText(t, y, lines("ab\ncd"))
	wantReplace(t, y, 0, 1, nil, api.OK)
	wantText(t, x, lines("ab\nx\ncd"))
}

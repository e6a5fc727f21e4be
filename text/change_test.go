package text_test

import (
	"math"
	"slices"
	"testing"

	"inkhorn/api"
	"inkhorn/text"
)

// wantInsert fails, if putting in is answered otherwise.
func wantInsert(t *testing.T, x *text.Text, p api.Pos, l []rune, e api.Errno) {
	t.Helper()
	if got := x.Insert(p, l); got != e {
		t.Fatalf("Insert(%v, %d runes) is %d, not %d", p, len(l), got, e)
	}
}

// wantDelete fails, if taking out is answered otherwise.
func wantDelete(t *testing.T, x *text.Text, from, to api.Pos, e api.Errno) {
	t.Helper()
	if got := x.Delete(from, to); got != e {
		t.Fatalf("Delete(%v, %v) is %d, not %d", from, to, got, e)
	}
}

// wantSlice fails, if other runes, or another error, are told.
func wantSlice(t *testing.T, x *text.Text, from, to api.Pos, l []rune, e api.Errno) {
	t.Helper()
	if got, f := x.Slice(from, to); f != e || !slices.Equal(got, l) {
		t.Fatalf("Slice(%v, %v) is %.200q (%d), not %.200q (%d)", from, to, string(got), f, string(l), e)
	}
}

// wantReplace fails, if lines in the place of lines are answered otherwise.
func wantReplace(t *testing.T, x *text.Text, at, n int, l [][]rune, e api.Errno) {
	t.Helper()
	if got := x.Replace(at, n, l); got != e {
		t.Fatalf("Replace(%d, %d, %d lines) is %d, not %d", at, n, len(l), got, e)
	}
}

// placesOf tells all places of a text, by how many runes are ahead of them.
func placesOf(l [][]rune) []api.Pos {
	var all []api.Pos
	for i, line := range l {
		for col := 0; col <= len(line); col++ {
			all = append(all, api.Pos{Line: i, Col: col})
		}
	}
	return all
}

// 4.3

func TestInsertAtEachPlace(t *testing.T) {
	for _, s := range someTexts {
		for n, p := range placesOf(lines(s)) {
			for _, in := range []string{"", "x", "xyz", "\n", "x\n", "\nx", "x\ny", "\n\n", "x\n\nyz\n"} {
				x := made(t, lines(s))
				wantInsert(t, x, p, []rune(in), api.OK)
				wantText(t, x, lines(s[:n]+in+s[n:]))
				wantPlaces(t, x, lines(s[:n]+in+s[n:]))
			}
		}
	}
}

// noPlaces are places that a text of the lines ab, none, c does not have.
var noPlaces = []api.Pos{
	{Line: -1}, {Line: 3}, {Line: math.MinInt}, {Line: math.MaxInt, Col: math.MaxInt},
	{Col: -1}, {Col: 3}, {Line: 1, Col: 1}, {Line: 2, Col: 2}, {Line: 2, Col: math.MaxInt}, {Line: 2, Col: math.MinInt},
}

func TestInsertOutOfRange(t *testing.T) {
	x := made(t, lines("ab\n\nc"))
	for _, p := range noPlaces {
		wantInsert(t, x, p, nil, api.ErrRange)
		wantInsert(t, x, p, []rune("x\n"), api.ErrRange)
		wantInsert(t, x, p, many(api.MaxRunes+1), api.ErrRange) // it is named ahead of ErrFull
	}
	wantText(t, x, lines("ab\n\nc"))
}

func TestInsertUpToMaxRunes(t *testing.T) {
	x := made(t, lines("a\nb"))
	wantInsert(t, x, api.Pos{Line: 1}, many(api.MaxRunes-2), api.ErrFull)
	wantInsert(t, x, api.Pos{Line: 1}, append(many(api.MaxRunes-3), 10), api.ErrFull)
	wantText(t, x, lines("a\nb"))
	wantInsert(t, x, api.Pos{Line: 1}, append(many(api.MaxRunes-4), 10), api.OK)
	full := [][]rune{{'a'}, many(api.MaxRunes - 4), {'b'}}
	wantText(t, x, full)
	for _, p := range []api.Pos{{}, {Line: 1, Col: 100}, {Line: 2, Col: 1}} {
		wantInsert(t, x, p, []rune("x"), api.ErrFull)
		wantInsert(t, x, p, []rune{10}, api.ErrFull)
		wantInsert(t, x, p, nil, api.OK)
	}
	wantText(t, x, full)
	wantDelete(t, x, api.Pos{Line: 1, Col: api.MaxRunes - 4}, api.Pos{Line: 2}, api.OK)
	wantInsert(t, x, api.Pos{}, []rune{10, 10}, api.ErrFull)
	wantInsert(t, x, api.Pos{}, []rune{10}, api.OK)
	wantText(t, x, [][]rune{nil, {'a'}, append(many(api.MaxRunes-4), 'b')})
}

func TestDeleteAndSliceOfEachRange(t *testing.T) {
	for _, s := range someTexts {
		places := placesOf(lines(s))
		for from, p := range places {
			for to, q := range places[from:] {
				x := made(t, lines(s))
				wantSlice(t, x, p, q, []rune(s[from:from+to]), api.OK)
				wantText(t, x, lines(s))
				wantDelete(t, x, p, q, api.OK)
				wantText(t, x, lines(s[:from]+s[from+to:]))
				wantPlaces(t, x, lines(s[:from]+s[from+to:]))
			}
		}
	}
}

func TestDeleteAndSliceBackwards(t *testing.T) {
	s := "ab\n\ncd"
	x := made(t, lines(s))
	places := placesOf(lines(s))
	for to, q := range places {
		for _, p := range places[to+1:] {
			wantDelete(t, x, p, q, api.ErrArg)
			wantSlice(t, x, p, q, nil, api.ErrArg)
		}
	}
	wantText(t, x, lines(s))
}

func TestDeleteAndSliceOutOfRange(t *testing.T) {
	s := "ab\n\nc"
	x := made(t, lines(s))
	for _, p := range noPlaces {
		for _, q := range slices.Concat(placesOf(lines(s)), noPlaces) { // ErrRange is named ahead of ErrArg
			wantDelete(t, x, p, q, api.ErrRange)
			wantDelete(t, x, q, p, api.ErrRange)
			wantSlice(t, x, p, q, nil, api.ErrRange)
			wantSlice(t, x, q, p, nil, api.ErrRange)
		}
	}
	wantText(t, x, lines(s))
}

func TestDeleteAndSliceOfAFullText(t *testing.T) {
	x := made(t, empties(api.MaxRunes+1))
	end := api.Pos{Line: api.MaxRunes}
	if l, e := x.Slice(api.Pos{}, end); e != api.OK || len(l) != api.MaxRunes || slices.ContainsFunc(l, func(r rune) bool { return r != 10 }) {
		t.Fatalf("Slice of all is %d runes (%d)", len(l), e)
	}
	wantDelete(t, x, api.Pos{}, end, api.OK)
	wantText(t, x, lines(""))
	wantInsert(t, x, api.Pos{}, many(api.MaxRunes), api.OK)
	wantText(t, x, [][]rune{many(api.MaxRunes)})
}

// 4.4

func TestReplaceOfEachRange(t *testing.T) {
	for _, s := range someTexts {
		have := lines(s)
		for at := 0; at <= len(have); at++ {
			for n := 0; n <= len(have)-at; n++ {
				for _, l := range [][][]rune{nil, {}, {nil}, lines("x"), lines("xy\n\nz"), lines("\n\n"), lines("x\n")} {
					want := slices.Concat(have[:at], l, have[at+n:])
					if len(want) == 0 {
						want = lines("")
					}
					x := made(t, have)
					wantReplace(t, x, at, n, l, api.OK)
					wantText(t, x, want)
					wantPlaces(t, x, want)
				}
			}
		}
	}
}

func TestReplaceOutOfRange(t *testing.T) {
	x := made(t, lines("ab\n\nc"))
	for _, w := range [][2]int{
		{-1, 0}, {-1, 1}, {4, 0}, {4, -1}, {math.MinInt, 0}, {math.MaxInt, 0}, {math.MaxInt, math.MaxInt}, {math.MinInt, math.MaxInt},
		{0, -1}, {3, -1}, {2, math.MinInt}, {0, 4}, {1, 3}, {3, 1}, {0, math.MaxInt}, {3, math.MaxInt},
	} {
		for _, l := range [][][]rune{nil, lines("x"), {{10}}, empties(api.MaxRunes + 2)} { // it is named ahead of all others
			wantReplace(t, x, w[0], w[1], l, api.ErrRange)
		}
	}
	wantText(t, x, lines("ab\n\nc"))
}

func TestReplaceByALineEnd(t *testing.T) {
	x := made(t, lines("ab\n\nc"))
	for _, l := range [][][]rune{{{10}}, {{'a', 10}}, {{10, 'a'}}, {{'a'}, nil, {'b', 10, 'c'}}, {many(api.MaxRunes + 1), {10}}} { // it is named ahead of ErrFull
		for at := range 4 {
			wantReplace(t, x, at, 0, l, api.ErrArg)
			wantReplace(t, x, at, 3-at, l, api.ErrArg)
		}
	}
	wantText(t, x, lines("ab\n\nc"))
}

func TestReplaceUpToMaxRunes(t *testing.T) {
	const most = api.MaxRunes
	for at := range 4 { // ab, none, c has 5 runes; what comes has an end too
		x := made(t, lines("ab\n\nc"))
		wantReplace(t, x, at, 0, [][]rune{many(most - 5)}, api.ErrFull)
		wantReplace(t, x, at, 0, empties(most-4), api.ErrFull)
		wantText(t, x, lines("ab\n\nc"))
		wantReplace(t, x, at, 0, [][]rune{many(most - 6)}, api.OK)
		want := slices.Insert(lines("ab\n\nc"), at, many(most-6))
		wantText(t, x, want)
		wantReplace(t, x, 0, 0, [][]rune{nil}, api.ErrFull)
		wantReplace(t, x, 4, 0, [][]rune{nil}, api.ErrFull)
		wantReplace(t, x, 4, 0, nil, api.OK)
		wantReplace(t, x, at, 1, [][]rune{many(most - 5)}, api.ErrFull)
		wantReplace(t, x, at, 1, [][]rune{many(most - 7), nil}, api.OK)
		wantText(t, x, slices.Replace(want, at, at+1, many(most-7), nil))
	}
}

func TestReplaceOfAllUpToMaxRunes(t *testing.T) {
	const most = api.MaxRunes
	x := made(t, lines("ab\n\nc"))
	wantReplace(t, x, 0, 3, [][]rune{many(most + 1)}, api.ErrFull)
	wantReplace(t, x, 0, 3, [][]rune{many(most - 1), nil, nil}, api.ErrFull)
	wantReplace(t, x, 0, 3, empties(most+2), api.ErrFull)
	wantText(t, x, lines("ab\n\nc"))
	wantReplace(t, x, 0, 3, [][]rune{many(most)}, api.OK)
	wantText(t, x, [][]rune{many(most)})
	wantReplace(t, x, 0, 1, empties(most+1), api.OK)
	wantReplace(t, x, most+1, 0, [][]rune{nil}, api.ErrFull)
	if x.Count() != most+1 || x.Runes() != most {
		t.Fatalf("Count is %d, Runes is %d", x.Count(), x.Runes())
	}
	wantReplace(t, x, 0, most+1, nil, api.OK)
	wantText(t, x, lines(""))
}

// Of all four

// rolls makes a row of numbers from a seed, each from 0 on and below n: always the same ones.
func rolls(seed uint64) func(n int) int {
	return func(n int) int {
		seed = seed*6364136223846793005 + 1442695040888963407
		return int(seed>>33) % n
	}
}

// model is a text as the chapter's words say it: its runes, and what each next rune is.
type model struct {
	row  string
	next int
}

// some tells n new runes, of which some are 10, if lines may end.
func (m *model) some(n int, roll func(n int) int, ends bool) string {
	var l []byte
	for range n {
		if ends && roll(3) == 0 {
			l = append(l, 10)
			continue
		}
		m.next++
		l = append(l, byte('a'+m.next%26))
	}
	return string(l)
}

// several tells n new lines.
func (m *model) several(n int, roll func(n int) int) [][]rune {
	l := [][]rune{}
	for range n {
		l = append(l, []rune(m.some(roll(4), roll, false)))
	}
	return l
}

// rowOf tells lines as a row.
func rowOf(l [][]rune) string {
	var row []rune
	for i, line := range l {
		if i > 0 {
			row = append(row, 10)
		}
		row = append(row, line...)
	}
	return string(row)
}

// step does one thing to the text and to its model, to at most so many runes or lines.
func (m *model) step(t *testing.T, x *text.Text, roll func(n int) int, most int) {
	t.Helper()
	have := lines(m.row)
	places := placesOf(have)
	from := roll(len(places))
	to := from + roll(min(len(places)-from, most+1))
	switch roll(3) {
	case 0:
		in := m.some(roll(most+1), roll, true)
		wantInsert(t, x, places[from], []rune(in), api.OK)
		m.row = m.row[:from] + in + m.row[from:]
	case 1:
		wantSlice(t, x, places[from], places[to], []rune(m.row[from:to]), api.OK)
		wantDelete(t, x, places[from], places[to], api.OK)
		m.row = m.row[:from] + m.row[to:]
	case 2:
		at := roll(len(have) + 1)
		n := roll(min(len(have)-at, most) + 1)
		l := m.several(roll(most+1), roll)
		wantReplace(t, x, at, n, l, api.OK)
		m.row = rowOf(slices.Concat(have[:at], l, have[at+n:]))
	}
}

func TestManyDeeds(t *testing.T) {
	for seed := range uint64(60) {
		roll := rolls(seed)
		m := &model{}
		m.row = m.some(roll(20), roll, true)
		x := made(t, lines(m.row))
		for range 200 {
			m.step(t, x, roll, 5)
			wantText(t, x, lines(m.row))
			wantPlaces(t, x, lines(m.row))
		}
	}
}

func TestManyDeedsOnManyLines(t *testing.T) {
	for seed := range uint64(3) {
		roll := rolls(seed + 1000)
		m := &model{}
		m.row = rowOf(m.several(2000, roll))
		x := made(t, lines(m.row))
		for range 40 {
			m.step(t, x, roll, 1+roll(1200))
			wantText(t, x, lines(m.row))
			wantPlaces(t, x, lines(m.row))
		}
	}
}

func TestOneLineAtATime(t *testing.T) {
	x := made(t, nil)
	var want [][]rune
	for i := range 3000 {
		at := i / 2
		wantReplace(t, x, at, 0, [][]rune{many(i % 5)}, api.OK)
		want = slices.Insert(want, at, many(i%5))
	}
	want = append(want, nil) // the empty line that was there first
	wantText(t, x, want)
	wantPlaces(t, x, want)
	for len(want) > 1 {
		at := len(want) / 3
		wantReplace(t, x, at, 1, nil, api.OK)
		want = slices.Delete(want, at, at+1)
		wantLine(t, x, at, want[at], api.OK)
	}
	wantText(t, x, want)
}

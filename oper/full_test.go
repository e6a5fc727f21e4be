package oper_test

import (
	"math"
	"slices"
	"strings"
	"testing"

	"inkhorn/api"
	"inkhorn/oper"
)

// most is how many runes lines have at most.
const most = api.MaxRunes

// wantSize fails, if another number of runes is answered; where there is no room, if anything but ErrFull is.
func wantSize(t *testing.T, what string, got answer, want int) {
	t.Helper()
	if want > most {
		if got != none(api.ErrFull) {
			t.Errorf("%s: %v, not ErrFull alone", what, got.short())
		}
		return
	}
	if n := len([]rune(got.lines)); got.err != api.OK || n != want {
		t.Errorf("%s: %d runes, %d, not %d", what, n, got.err, want)
	}
}

// 13.3: what is put ahead counts, of each line that is not empty; what is gone leaves room.
func TestShiftUpToMaxRunes(t *testing.T) {
	for i, x := range []struct {
		lines        string
		from, to, by int
		want         int
	}{
		{long(most - 1), 0, 0, 1, most},
		{long(most - 1), 0, 0, 2, most + 1},
		{long(most - 64), 0, 0, 64, most},
		{long(most - 63), 0, 0, 64, most + 1},
		{long(most), 0, 0, 0, most},
		{long(most), 0, 0, 1, most + 1},
		{long(most), 0, 0, -64, most},
		{"  " + long(most), 0, 0, -1, most + 1},
		{"  " + long(most), 0, 0, -2, most},
		{"  " + long(most), 0, 0, 0, most + 2},
		{"a||b|" + long(most-9), 0, 2, 2, most},
		{"a||b|" + long(most-8), 0, 2, 2, most + 1},
		{"a||b|" + long(most-8), 0, 3, 1, most},
		{"a||b|" + long(most-7), 0, 3, 1, most + 1},
		{"a||b|" + long(most-6), 0, 1, 1, most},
		{strings.Repeat("|", most), 0, most, 64, most},
		{strings.Repeat("x|", most/2), 0, most / 2, 1, most + most/2},
		{strings.Repeat("x|", most/2), 0, most / 2, 64, most + 1},
	} {
		l, err := oper.Shift(lines(x.lines), x.from, x.to, x.by)
		wantSize(t, "Shift "+string(rune('a'+i)), of(l, api.Pos{}, err), x.want)
	}
}

// What is left counts, not what there was.
func TestCutUpToMaxRunes(t *testing.T) {
	for i, x := range []struct {
		lines string
		r     api.Region
		want  int
	}{
		{long(most), region(char, 0, 0, 0, 0), most - 1},
		{long(most + 5), region(char, 0, 1, 0, 5), most},
		{long(most + 5), region(char, 0, 1, 0, 4), most + 1},
		{"a|" + long(most), region(whole, 0, 0, 0, 0), most},
		{"a|" + long(most+1), region(whole, 0, 0, 0, 0), most + 1},
		{"a|" + long(most), region(whole, 1, 0, 1, 0), 1},
		{"ab|" + long(most-1), region(block, 0, 0, 1, 0), most},
		{"ab|" + long(most), region(block, 0, 0, 1, 0), most + 1},
	} {
		wantSize(t, "Cut "+string(rune('a'+i)), of(oper.Cut(lines(x.lines), x.r)), x.want)
	}
	for _, kind := range []int{char, whole, block} {
		g, err := oper.Take(lines(long(most)), region(kind, 0, 0, 0, most-1))
		wantSize(t, "Take", of(g.Lines, api.Pos{}, err), most)
	}
}

func TestTurnUpToMaxRunes(t *testing.T) {
	for _, n := range []int{most, most + 1} {
		l, err := oper.Turn(lines(long(n)), region(char, 0, 0, 0, 1), '~')
		wantSize(t, "Turn", of(l, api.Pos{}, err), n)
	}
}

func TestJoinUpToMaxRunes(t *testing.T) {
	for i, x := range []struct {
		lines string
		want  int
	}{
		{long(most-2) + "|b", most},
		{long(most-1) + "|b", most + 1},
		{long(most-1) + "|)", most},
		{long(most-1) + "| b", most + 1},
		{long(most-4) + "|   b", most - 2},
	} {
		wantSize(t, "Join "+string(rune('a'+i)), of(oper.Join(lines(x.lines), 0, 2)), x.want)
	}
}

func TestOverUpToMaxRunes(t *testing.T) {
	for _, x := range []struct {
		size int
		r    rune
		n    int
		want int
	}{
		{most, 'y', most, most}, {most + 1, 'y', 2, most + 1},
		{most, 10, 1, most}, {most + 1, 10, 1, most + 1}, {most + 1, 10, 2, most}, {most, 10, most, 1},
	} {
		wantSize(t, "Over", of(oper.Over(lines(long(x.size)), at(0, 0), x.r, x.n)), x.want)
	}
}

// Of several errors the one that the chapter names first is told.
func TestErrFullIsTheLast(t *testing.T) {
	l := lines(long(most + 1))
	want(t, "Cut", of(oper.Cut(l, region(char, 1, 0, 0, 0))), none(api.ErrRange))
	want(t, "Over", of(oper.Over(l, at(0, 0), 'x', most+2)), none(api.ErrRange))
	want(t, "Join", of(oper.Join(l, 0, 2)), none(api.ErrRange))
	got, err := oper.Turn(l, region(char, 1, 0, 0, 0), 'u')
	want(t, "Turn", of(got, api.Pos{}, err), none(api.ErrRange))
	got, err = oper.Turn(l, region(char, 0, 0, 0, 0), 'x')
	want(t, "Turn", of(got, api.Pos{}, err), none(api.ErrArg))
	got, err = oper.Shift(l, 0, 1, 1)
	want(t, "Shift", of(got, api.Pos{}, err), none(api.ErrRange))
	want(t, "Paste", of(oper.Paste(l, at(0, 0), api.Reg{Kind: 3, Lines: lines("x")}, true, 1)), none(api.ErrArg))
}

// Many lines: each call ends, soon.
func TestManyLines(t *testing.T) {
	l := make([][]rune, most)
	last := at(most-1, 0)
	all := api.Region{To: last, Kind: char}
	got, p, err := oper.Cut(l, all)
	want(t, "Cut", of(got, p, err), answer{"", at(0, 0), api.OK})
	want(t, "Join", of(oper.Join(l, 0, most)), answer{"", at(0, 0), api.OK})
	g, err := oper.Take(l, all)
	wantSize(t, "Take", of(g.Lines, api.Pos{}, err), most-1)
	for _, kind := range []int{char, whole, block} {
		g.Kind = kind
		wantSize(t, "Paste", of(oper.Paste(lines(""), at(0, 0), g, true, 1)), []int{most - 1, most, most - 1}[kind])
		wantSize(t, "Paste twice", of(oper.Paste(lines("a"), at(0, 0), g, false, math.MaxInt)), []int{most + 1, most + 1, most}[kind])
	}
	c := oper.Diff(l, append(slices.Clone(l), []rune{'a'}))
	if c.At != most || len(c.Old) != 0 || told(c.New) != "a" {
		t.Errorf("Diff: %d, %d, %d", c.At, len(c.Old), len(c.New))
	}
}

// R1: with lines that have a 10, too, each call ends, and none panics.
func TestLinesWithATen(t *testing.T) {
	l := [][]rune{{'a', 10}, {10}, {10, 10, 'b'}}
	for kind := -1; kind < 4; kind++ {
		for line := range l {
			for col := range l[line] {
				r := region(kind, 0, 1, line, col)
				oper.Take(l, r)
				oper.Cut(l, r)
				oper.Turn(l, r, '~')
				oper.Paste(l, r.To, api.Reg{Kind: kind, Lines: lines("x|yz")}, true, 2)
				oper.Over(l, r.To, 10, 1)
				oper.Over(l, r.To, 'x', 2)
			}
		}
	}
	oper.Join(l, 0, 3)
	oper.Shift(l, 0, 2, -2)
	oper.Diff(l, l[1:])
}

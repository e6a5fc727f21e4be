package cell_test

import (
	"math"
	"slices"
	"testing"

	"inkhorn/api"
	"inkhorn/cell"
)

// blanks tells n of them.
func blanks(n int) []rune {
	return slices.Repeat([]rune{0x20}, n)
}

// sameUnits tells whether the units of both lists are the same.
func sameUnits(a, b []api.Unit) bool {
	return slices.EqualFunc(a, b, func(x, y api.Unit) bool {
		return x.From == y.From && x.To == y.To && x.Col == y.Col && x.Width == y.Width && slices.Equal(x.Text, y.Text)
	})
}

// wantUnits fails, if the line has other units.
func wantUnits(t *testing.T, line []rune, tab int, l ...api.Unit) {
	t.Helper()
	if got := cell.Units(line, tab); !sameUnits(got, l) {
		t.Errorf("Units(%X, %d) is %X, not %X", line, tab, got, l)
	}
}

// wantCol fails, if rune i of the line is shown elsewhere.
func wantCol(t *testing.T, line []rune, tab, i, col, width int) {
	t.Helper()
	if c, w := cell.Col(line, tab, i); c != col || w != width {
		t.Errorf("Col(%X, %d, %d) is %d, %d, not %d, %d", line, tab, i, c, w, col, width)
	}
}

// wantAt fails, if that column shows another rune of the line.
func wantAt(t *testing.T, line []rune, tab, col, i int) {
	t.Helper()
	if got := cell.At(line, tab, col); got != i {
		t.Errorf("At(%X, %d, %d) is %d, not %d", line, tab, col, got, i)
	}
}

// wantColumns fails, if the line has another number of columns.
func wantColumns(t *testing.T, line []rune, tab, n int) {
	t.Helper()
	if got := cell.Columns(line, tab); got != n {
		t.Errorf("Columns(%X, %d) is %d, not %d", line, tab, got, n)
	}
}

// wantedUnits tells the units of a line as the chapter's words do, rune by rune, looking back at the unit ahead.
func wantedUnits(line []rune, tab int) []api.Unit {
	if tab < 1 || tab > 64 {
		tab = 8
	}
	var l []api.Unit
	col := 0
	for i, r := range line {
		u := api.Unit{From: i, To: i + 1, Col: col, Width: wantedWidth(r), Text: wantedShow(r)}
		switch {
		case r == 9:
			u.Width = 1
			for (col+u.Width)%tab != 0 {
				u.Width++
			}
			u.Text = blanks(u.Width)
		case in(zeroWide, r) && len(l) > 0 && line[l[len(l)-1].From] != 9 && marksOf(l[len(l)-1]) < 2:
			ahead := &l[len(l)-1]
			ahead.To++
			ahead.Text = append(ahead.Text, r)
			continue
		case in(zeroWide, r):
			u.Width = 1
			u.Text = []rune{0x20, r}
		}
		col += u.Width
		l = append(l, u)
	}
	return l
}

// marksOf tells how many runes of a unit's Text are zero wide.
func marksOf(u api.Unit) int {
	n := 0
	for _, r := range u.Text {
		if in(zeroWide, r) {
			n++
		}
	}
	return n
}

var someTabs = []int{8, 1, 2, 3, 64, 0, 65}

// eachLine calls f with every line of at most n runes, one of each kind.
func eachLine(n int, f func(line []rune)) {
	kinds := []rune{'a', 9, 0x301, 0x4E2D, 1, 0x85, 0xFE0F, -1}
	line := make([]rune, 0, n)
	var fill func()
	fill = func() {
		f(line)
		if len(line) == n {
			return
		}
		for _, r := range kinds {
			line = append(line, r)
			fill()
			line = line[:len(line)-1]
		}
	}
	fill()
}

// 2.2

func TestUnitsOfNoRunes(t *testing.T) {
	wantUnits(t, nil, 8)
	wantUnits(t, []rune{}, 8)
	wantUnits(t, nil, -1)
}

func TestUnitsOfPlainRunes(t *testing.T) {
	wantUnits(t, []rune{'a', 0x20, 0x4E2D, 1, 0x85, 0xD800, 'b'}, 8,
		api.Unit{From: 0, To: 1, Col: 0, Width: 1, Text: []rune{'a'}},
		api.Unit{From: 1, To: 2, Col: 1, Width: 1, Text: []rune{0x20}},
		api.Unit{From: 2, To: 3, Col: 2, Width: 2, Text: []rune{0x4E2D}},
		api.Unit{From: 3, To: 4, Col: 4, Width: 2, Text: []rune{'^', 'A'}},
		api.Unit{From: 4, To: 5, Col: 6, Width: 1, Text: []rune{0xFFFD}},
		api.Unit{From: 5, To: 6, Col: 7, Width: 1, Text: []rune{0xFFFD}},
		api.Unit{From: 6, To: 7, Col: 8, Width: 1, Text: []rune{'b'}},
	)
}

func TestUnitOfRuneTenIsThatOfAControl(t *testing.T) {
	wantUnits(t, []rune{10}, 8, api.Unit{From: 0, To: 1, Col: 0, Width: 2, Text: []rune{'^', 'J'}})
}

func TestUnitsOfTabs(t *testing.T) {
	wantUnits(t, []rune{'a', 9, 'b'}, 8,
		api.Unit{From: 0, To: 1, Col: 0, Width: 1, Text: []rune{'a'}},
		api.Unit{From: 1, To: 2, Col: 1, Width: 7, Text: blanks(7)},
		api.Unit{From: 2, To: 3, Col: 8, Width: 1, Text: []rune{'b'}},
	)
	wantUnits(t, []rune{9, 9}, 8, // from a multiple of tab it leads to the next one
		api.Unit{From: 0, To: 1, Col: 0, Width: 8, Text: blanks(8)},
		api.Unit{From: 1, To: 2, Col: 8, Width: 8, Text: blanks(8)},
	)
	wantUnits(t, []rune{0x4E2D, 9, 'a', 9}, 3, // the least is one blank
		api.Unit{From: 0, To: 1, Col: 0, Width: 2, Text: []rune{0x4E2D}},
		api.Unit{From: 1, To: 2, Col: 2, Width: 1, Text: blanks(1)},
		api.Unit{From: 2, To: 3, Col: 3, Width: 1, Text: []rune{'a'}},
		api.Unit{From: 3, To: 4, Col: 4, Width: 2, Text: blanks(2)},
	)
}

func TestTabCountsAsEightOutsideItsLimits(t *testing.T) {
	for tab := 1; tab <= 64; tab++ {
		wantUnits(t, []rune{9}, tab, api.Unit{From: 0, To: 1, Col: 0, Width: tab, Text: blanks(tab)})
	}
	for _, tab := range []int{0, -1, -8, 65, 128, math.MinInt, math.MaxInt} {
		wantUnits(t, []rune{9}, tab, api.Unit{From: 0, To: 1, Col: 0, Width: 8, Text: blanks(8)})
		wantColumns(t, []rune{9}, tab, 8)
		wantCol(t, []rune{9, 'a'}, tab, 1, 8, 1)
		wantAt(t, []rune{9, 'a'}, tab, 7, 0)
		wantAt(t, []rune{9, 'a'}, tab, 8, 1)
	}
}

func TestMarksGoIntoTheUnitAhead(t *testing.T) {
	wantUnits(t, []rune{'e', 0x301}, 8, api.Unit{From: 0, To: 2, Col: 0, Width: 1, Text: []rune{'e', 0x301}})
	wantUnits(t, []rune{0x4E2D, 0xFE0F, 0x301, 'a'}, 8,
		api.Unit{From: 0, To: 3, Col: 0, Width: 2, Text: []rune{0x4E2D, 0xFE0F, 0x301}},
		api.Unit{From: 3, To: 4, Col: 2, Width: 1, Text: []rune{'a'}},
	)
	wantUnits(t, []rune{1, 0x301, 0x85, 0x301, -1, 0x301}, 8,
		api.Unit{From: 0, To: 2, Col: 0, Width: 2, Text: []rune{'^', 'A', 0x301}},
		api.Unit{From: 2, To: 4, Col: 2, Width: 1, Text: []rune{0xFFFD, 0x301}},
		api.Unit{From: 4, To: 6, Col: 3, Width: 1, Text: []rune{0xFFFD, 0x301}},
	)
}

func TestMarksThatFindNoUnitAhead(t *testing.T) {
	wantUnits(t, []rune{0x301}, 8, api.Unit{From: 0, To: 1, Col: 0, Width: 1, Text: []rune{0x20, 0x301}})
	wantUnits(t, []rune{0x301, 0x302, 0x303}, 8, // the blank's own counts among its marks
		api.Unit{From: 0, To: 2, Col: 0, Width: 1, Text: []rune{0x20, 0x301, 0x302}},
		api.Unit{From: 2, To: 3, Col: 1, Width: 1, Text: []rune{0x20, 0x303}},
	)
	wantUnits(t, []rune{'e', 0x301, 0x302, 0x303, 0x304, 0x305}, 8,
		api.Unit{From: 0, To: 3, Col: 0, Width: 1, Text: []rune{'e', 0x301, 0x302}},
		api.Unit{From: 3, To: 5, Col: 1, Width: 1, Text: []rune{0x20, 0x303, 0x304}},
		api.Unit{From: 5, To: 6, Col: 2, Width: 1, Text: []rune{0x20, 0x305}},
	)
}

func TestMarksDoNotGoIntoATab(t *testing.T) {
	wantUnits(t, []rune{9, 0x301, 0x302, 0x303}, 4,
		api.Unit{From: 0, To: 1, Col: 0, Width: 4, Text: blanks(4)},
		api.Unit{From: 1, To: 3, Col: 4, Width: 1, Text: []rune{0x20, 0x301, 0x302}},
		api.Unit{From: 3, To: 4, Col: 5, Width: 1, Text: []rune{0x20, 0x303}},
	)
}

func TestUnitsOfAllShortLines(t *testing.T) {
	for _, tab := range someTabs {
		eachLine(5, func(line []rune) {
			if l := cell.Units(line, tab); !sameUnits(l, wantedUnits(line, tab)) {
				t.Fatalf("Units(%X, %d) is %X", line, tab, l)
			}
		})
	}
}

func TestUnitsLeaveTheLineAndHandOutNewMemory(t *testing.T) {
	all := []rune{'e', 0x301, 9, 0x302, 1, 'x', 'y'}
	line := all[:5]
	first, second := cell.Units(line, 8), cell.Units(line, 8)
	wanted := wantedUnits(line, 8)
	for i := range first {
		full := first[i].Text[:cap(first[i].Text)]
		for j := range full {
			full[j] = 'z'
		}
		for j := range first {
			if j > i && !slices.Equal(first[j].Text, wanted[j].Text) {
				t.Errorf("unit %d changed with unit %d", j, i)
			}
		}
		first[i].From = -1
	}
	if !sameUnits(second, wanted) {
		t.Errorf("an answer changed with another one: %X", second)
	}
	if !slices.Equal(all, []rune{'e', 0x301, 9, 0x302, 1, 'x', 'y'}) {
		t.Errorf("the line changed: %X", all)
	}
}

// 2.3

func TestColumns(t *testing.T) {
	wantColumns(t, nil, 8, 0)
	wantColumns(t, []rune{'a', 9, 'b'}, 8, 9)
	wantColumns(t, []rune{'a', 9, 'b'}, 1, 3)
	wantColumns(t, []rune{0x4E2D, 0x301, 1, 0x301, 'e', 0x301, 0x302, 0x303}, 8, 6)
	wantColumns(t, slices.Repeat([]rune{'a', 9}, 1000), 64, 64000)
}

func TestColOfEachRune(t *testing.T) {
	line := []rune{'a', 9, 0x4E2D, 0x301, 'b'}
	wantCol(t, line, 8, 0, 0, 1)
	wantCol(t, line, 8, 1, 1, 7)
	wantCol(t, line, 8, 2, 8, 2)
	wantCol(t, line, 8, 3, 8, 2)
	wantCol(t, line, 8, 4, 10, 1)
}

func TestColOutsideOfTheLine(t *testing.T) {
	line := []rune{0x4E2D, 9}
	for _, i := range []int{-1, -100, math.MinInt} {
		wantCol(t, line, 8, i, 0, 2)
		wantCol(t, nil, 8, i, 0, 1)
	}
	for _, i := range []int{2, 3, 100, math.MaxInt} {
		wantCol(t, line, 8, i, 8, 1)
		wantCol(t, nil, 8, i, 0, 1)
	}
	wantCol(t, nil, 8, 0, 0, 1)
}

func TestAtEachColumn(t *testing.T) {
	line := []rune{'a', 9, 0x4E2D, 0x301, 'b'}
	for col, i := range []int{0, 1, 1, 1, 1, 1, 1, 1, 2, 2, 4} {
		wantAt(t, line, 8, col, i)
	}
}

func TestAtOutsideOfTheLine(t *testing.T) {
	line := []rune{0x4E2D, 'a', 0x301}
	for _, col := range []int{-1, -100, math.MinInt} {
		wantAt(t, line, 8, col, 0)
		wantAt(t, nil, 8, col, 0)
	}
	for _, col := range []int{3, 4, 100, math.MaxInt} {
		wantAt(t, line, 8, col, 3)
		wantAt(t, nil, 8, col, 0)
	}
	wantAt(t, nil, 8, 0, 0)
}

func TestColumnsColAndAtOfAllShortLines(t *testing.T) {
	for _, tab := range someTabs {
		eachLine(4, func(line []rune) {
			n := 0
			for _, u := range wantedUnits(line, tab) {
				for i := u.From; i < u.To; i++ {
					wantCol(t, line, tab, i, u.Col, u.Width)
				}
				for col := u.Col; col < u.Col+u.Width; col++ {
					wantAt(t, line, tab, col, u.From)
				}
				n += u.Width
			}
			wantColumns(t, line, tab, n)
			wantCol(t, line, tab, len(line), n, 1)
			wantAt(t, line, tab, n, len(line))
		})
	}
}

func TestMeasuringLeavesTheLine(t *testing.T) {
	all := []rune{'e', 0x301, 9, 0x302, 1, 'x', 'y'}
	line := all[:5]
	cell.Columns(line, 8)
	cell.Col(line, 8, 4)
	cell.At(line, 8, 9)
	if !slices.Equal(all, []rune{'e', 0x301, 9, 0x302, 1, 'x', 'y'}) {
		t.Errorf("the line changed: %X", all)
	}
}

// 2.4

func TestUnitsPartTheLineAndItsColumns(t *testing.T) {
	for _, tab := range someTabs {
		eachLine(5, func(line []rune) {
			i, col := 0, 0
			for _, u := range cell.Units(line, tab) {
				n := 0
				for _, r := range u.Text {
					n += cell.Width(r)
				}
				if u.From != i || u.To <= i || u.Col != col || u.Width < 1 || n != u.Width {
					t.Fatalf("Units(%X, %d) has %X", line, tab, u)
				}
				i, col = u.To, col+u.Width
			}
			if i != len(line) || col != cell.Columns(line, tab) {
				t.Fatalf("Units(%X, %d) end at %d, column %d", line, tab, i, col)
			}
		})
	}
}

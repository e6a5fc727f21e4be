package cell_test

import (
	"math"
	"slices"
	"testing"

	"inkhorn/cell"
)

// runeRange is the runes from first to last.
type runeRange struct{ first, last rune }

var zeroWide = []runeRange{{0x300, 0x36F}, {0x200B, 0x200F}, {0x20D0, 0x20FF}, {0xFE00, 0xFE0F}}

var wide = []runeRange{
	{0x1100, 0x115F}, {0x2E80, 0x303E}, {0x3041, 0x4DBF}, {0x4E00, 0xA4CF},
	{0xAC00, 0xD7A3}, {0xF900, 0xFAFF}, {0xFE30, 0xFE6F}, {0xFF00, 0xFF60},
	{0xFFE0, 0xFFE6}, {0x1F300, 0x1F64F}, {0x1F900, 0x1F9FF}, {0x20000, 0x3FFFD},
}

var controls = []runeRange{{0, 0x1F}, {0x7F, 0x7F}}

// noScalars has also those that are a control, a mark or wide in their lower bits.
var noScalars = []rune{
	-1, -0x41, -0x80, math.MinInt32, math.MinInt32 + 0x301, math.MinInt32 + 0x4E2D,
	0xD800, 0xDABC, 0xDFFF, 0x110000, 0x1FFFFF, 0x1000301, math.MaxInt32,
}

// in tells whether one of the ranges has r.
func in(l []runeRange, r rune) bool {
	return slices.ContainsFunc(l, func(x runeRange) bool { return x.first <= r && r <= x.last })
}

// wantedWidth tells the width of a rune as the chapter's words do.
func wantedWidth(r rune) int {
	switch {
	case in(zeroWide, r):
		return 0
	case in(wide, r), in(controls, r):
		return 2
	}
	return 1
}

// wantedShow tells what is shown of a rune as the chapter's words do.
func wantedShow(r rune) []rune {
	switch {
	case in(controls, r):
		return []rune{'^', r ^ 0x40}
	case 0x80 <= r && r <= 0x9F, r < 0, 0xD800 <= r && r <= 0xDFFF, r > 0x10FFFF:
		return []rune{0xFFFD}
	}
	return []rune{r}
}

// eachRune calls f with all scalars, all surrogates, and some runes outside of them.
func eachRune(f func(r rune)) {
	for r := rune(-0x100); r <= 0x110100; r++ {
		f(r)
	}
	for _, r := range noScalars {
		f(r)
	}
}

// wantWidth fails, if r has another width.
func wantWidth(t *testing.T, r rune, n int) {
	t.Helper()
	if got := cell.Width(r); got != n {
		t.Errorf("Width(%X) is %d, not %d", r, got, n)
	}
}

// wantShow fails, if anything else is shown of r.
func wantShow(t *testing.T, r rune, l ...rune) {
	t.Helper()
	if got := cell.Show(r); !slices.Equal(got, l) {
		t.Errorf("Show(%X) is %X, not %X", r, got, l)
	}
}

// 2.1

func TestWidthAtTheEndsOfRanges(t *testing.T) {
	for _, x := range zeroWide {
		wantWidth(t, x.first-1, 1)
		wantWidth(t, x.first, 0)
		wantWidth(t, x.last, 0)
		wantWidth(t, x.last+1, 1)
	}
	for _, x := range wide {
		wantWidth(t, x.first-1, 1)
		wantWidth(t, x.first, 2)
		wantWidth(t, x.last, 2)
		wantWidth(t, x.last+1, 1)
	}
}

func TestWidthOfControlsAndTheirNeighbours(t *testing.T) {
	for _, r := range []rune{0, 1, 9, 10, 0x1B, 0x1F, 0x7F} {
		wantWidth(t, r, 2)
	}
	for _, r := range []rune{0x20, 'a', '~', 0x80, 0x9F, 0xA0, 0xE9, 0xFFFD} {
		wantWidth(t, r, 1)
	}
}

func TestWidthOfWhatIsNoScalar(t *testing.T) {
	for _, r := range noScalars {
		wantWidth(t, r, 1)
	}
}

func TestEveryRuneHasItsWidth(t *testing.T) {
	eachRune(func(r rune) {
		if n := cell.Width(r); n != wantedWidth(r) {
			t.Fatalf("Width(%X) is %d", r, n)
		}
	})
}

func TestShowOfControls(t *testing.T) {
	wantShow(t, 0, '^', '@')
	wantShow(t, 1, '^', 'A')
	wantShow(t, 9, '^', 'I')
	wantShow(t, 10, '^', 'J')
	wantShow(t, 0x1B, '^', '[')
	wantShow(t, 0x1F, '^', '_')
	wantShow(t, 0x7F, '^', '?')
}

func TestShowOfWhatCannotBeShown(t *testing.T) {
	for _, r := range []rune{0x80, 0x85, 0x9F} {
		wantShow(t, r, 0xFFFD)
	}
	for _, r := range noScalars {
		wantShow(t, r, 0xFFFD)
	}
}

func TestShowOfOthersIsThemselves(t *testing.T) {
	for _, r := range []rune{0x20, 'a', '^', '~', 0xA0, 0xE9, 0x301, 0x200D, 0x4E2D, 0xD7FF, 0xE000, 0xFFFD, 0xFFFF, 0x1F600, 0x10FFFF} {
		wantShow(t, r, r)
	}
}

func TestEveryRuneIsShown(t *testing.T) {
	eachRune(func(r rune) {
		l := cell.Show(r)
		if !slices.Equal(l, wantedShow(r)) {
			t.Fatalf("Show(%X) is %X", r, l)
		}
		n := 0
		for _, s := range l {
			n += cell.Width(s)
		}
		if n != cell.Width(r) {
			t.Fatalf("Show(%X) has %d columns, the rune %d", r, n, cell.Width(r))
		}
	})
}

func TestShowHandsOutNewMemory(t *testing.T) {
	for _, r := range []rune{1, 0x80, 'a'} {
		first, second := cell.Show(r), cell.Show(r)
		first[0] = 'x'
		if !slices.Equal(second, wantedShow(r)) {
			t.Errorf("an answer changed with another one: %X", second)
		}
	}
}

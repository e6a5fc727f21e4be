package marks_test

import (
	"math"
	"slices"
	"strings"
	"testing"

	"inkhorn/api"
	"inkhorn/marks"
)

// lines tells the lines of a string, one blank between each two; of the string "none", none.
func lines(s string) [][]rune {
	if s == "none" {
		return nil
	}
	var l [][]rune
	for _, line := range strings.Split(s, " ") {
		l = append(l, []rune(line))
	}
	return l
}

// change tells a change of the lines of two strings.
func change(at int, old, new string) api.Change {
	return api.Change{At: at, Old: lines(old), New: lines(new)}
}

// turned tells a change that takes one back.
func turned(c api.Change) api.Change {
	return api.Change{At: c.At, Old: c.New, New: c.Old}
}

// at tells a place.
func at(line, col int) api.Pos {
	return api.Pos{Line: line, Col: col}
}

// wantMove fails, if a change leaves a place elsewhere.
func wantMove(t *testing.T, p api.Pos, c api.Change, want api.Pos) {
	t.Helper()
	if got, ok := marks.Move(p, c); !ok || got != want {
		t.Fatalf("Move(%v, %d %q %q) is %v (%t), not %v", p, c.At, c.Old, c.New, got, ok, want)
	}
}

// wantGone fails, if a change leaves a place, or if where it was is told.
func wantGone(t *testing.T, p api.Pos, c api.Change) {
	t.Helper()
	if got, ok := marks.Move(p, c); ok || got != (api.Pos{}) {
		t.Fatalf("Move(%v, %d %q %q) is %v (%t): it is not gone", p, c.At, c.Old, c.New, got, ok)
	}
}

// 6.1

func TestTheExamplesOfMove(t *testing.T) {
	wantMove(t, at(5, 2), change(1, "a b", "c"), at(4, 2))
	wantMove(t, at(2, 9), change(2, "a", "xy"), at(2, 2))
}

func TestMoveRoundAChange(t *testing.T) {
	c := change(3, "a b c", "xyz")
	wantMove(t, at(0, 7), c, at(0, 7))
	wantMove(t, at(2, 7), c, at(2, 7)) // just ahead
	wantMove(t, at(3, 2), c, at(3, 2)) // its first line
	wantMove(t, at(3, 3), c, at(3, 3))
	wantMove(t, at(3, 4), c, at(3, 3))
	wantGone(t, at(4, 0), c)
	wantGone(t, at(5, 0), c)           // its last line
	wantMove(t, at(6, 7), c, at(4, 7)) // just behind
	wantMove(t, at(9, 7), c, at(7, 7))
}

func TestMoveWhereLinesComeIn(t *testing.T) {
	for _, w := range []struct {
		old, new string
		more     int
	}{
		{"none", "x", 1}, {"none", "x y z", 3}, {"a", "x y", 1}, {"a b", "x y z", 1}, {"a", "x y z", 2},
	} {
		c := change(4, w.old, w.new)
		end := 4 + len(c.Old)
		wantMove(t, at(3, 5), c, at(3, 5))
		wantMove(t, at(end, 5), c, at(end+w.more, 5))
		wantMove(t, at(end+90, 0), c, at(end+90+w.more, 0))
		for line := 4; line < end; line++ {
			wantMove(t, at(line, 5), c, at(line, 1))
		}
	}
}

func TestMoveWhereLinesGoOut(t *testing.T) {
	c := change(2, "a b", "none")
	wantMove(t, at(1, 5), c, at(1, 5))
	wantGone(t, at(2, 0), c)
	wantGone(t, at(3, 5), c)
	wantMove(t, at(4, 5), c, at(2, 5))
	wantMove(t, at(5, 0), c, at(3, 0))
	wantGone(t, at(0, 0), change(0, "", "none"))
	wantMove(t, at(1, 1), change(0, "", "none"), at(0, 1))
}

func TestMoveWithinKeepsTheColumnInItsLine(t *testing.T) {
	c := change(1, "aaaa bbbb cccc dddd", "xyz  x")
	for line, length := range []int{3, 0, 1} {
		for _, col := range []int{0, 1, 2, 3, 4, 1 << 30, math.MaxInt} {
			wantMove(t, at(1+line, col), c, at(1+line, min(col, length)))
		}
		wantMove(t, at(1+line, -1), c, at(1+line, -1)) // that is at most its length
		wantMove(t, at(1+line, math.MinInt), c, at(1+line, math.MinInt))
	}
	wantGone(t, at(4, 0), c)
}

func TestMoveOutsideKeepsAnyColumn(t *testing.T) {
	c := change(1, "a", "x y")
	for _, col := range []int{0, 1, 1 << 30, -1, math.MinInt, math.MaxInt} {
		wantMove(t, at(0, col), c, at(0, col))
		wantMove(t, at(2, col), c, at(3, col))
	}
}

func TestMoveByAChangeOfNothing(t *testing.T) {
	for _, c := range []api.Change{{}, {At: 3}, {At: 3, Old: [][]rune{}, New: [][]rune{}}, {At: -1}, {At: 1 << 40}, {At: -1 << 40}} {
		for _, p := range []api.Pos{{}, at(2, 9), at(3, 9), at(4, 9), at(-1, 9), at(-2, -9), at(1<<40, 1), at(-1<<40, 1)} {
			wantMove(t, p, c, p)
		}
	}
}

func TestMoveByAChangeOfALineToItself(t *testing.T) {
	c := change(3, "abc", "abc")
	for _, p := range []api.Pos{at(2, 9), at(3, 0), at(3, 3), at(4, 9)} {
		wantMove(t, p, c, p)
	}
	wantMove(t, at(3, 4), c, at(3, 3))
}

func TestMoveBelowTheFirstLine(t *testing.T) {
	c := change(-3, "a b c d", "xy z")
	wantMove(t, at(-4, 1), c, at(-4, 1))
	wantMove(t, at(-3, 9), c, at(-3, 2))
	wantMove(t, at(-2, 9), c, at(-2, 1))
	wantGone(t, at(-1, 0), c)
	wantGone(t, at(0, 0), c)
	wantMove(t, at(1, 9), c, at(-1, 9))
}

func TestMoveUpToFarLines(t *testing.T) {
	const most = 1 << 40
	for _, far := range []int{most, -most, most - 1, 1 - most, math.MaxInt32, math.MinInt32} {
		c := change(far, "a b", "x")
		wantMove(t, at(far-1, 7), c, at(far-1, 7))
		wantMove(t, at(far, 7), c, at(far, 1))
		if far == most { // of lines above it nothing is promised
			continue
		}
		wantGone(t, at(far+1, 0), c)
		if far < most-1 {
			wantMove(t, at(far+2, 7), c, at(far+1, 7))
		}
	}
	wantMove(t, at(most, 7), change(-most, "a", "x y z"), at(most+2, 7))
	wantMove(t, at(most, 7), change(-most, "a b c", "x"), at(most-2, 7))
	wantMove(t, at(-most, 7), change(most, "a", "x y z"), at(-most, 7))
	wantMove(t, at(-most, 7), change(-most, "none", "x"), at(1-most, 7))
}

// farLines are such that nothing is promised of them but that a call ends.
var farLines = []int{1<<40 + 1, -1<<40 - 1, 1 << 62, -1 << 62, math.MaxInt, math.MaxInt - 1, math.MaxInt - 2, math.MinInt, math.MinInt + 1, math.MinInt + 2}

func TestMoveOfTooFarLinesEnds(t *testing.T) {
	all := append([]int{-1, 0, 1, 1 << 40, -1 << 40}, farLines...)
	for _, from := range all {
		for _, line := range all {
			for _, c := range []api.Change{change(from, "none", "none"), change(from, "a", "none"), change(from, "none", "x y"), change(from, "a b", "x"), change(from, "a", "x y"), change(from, "a b c", "x y z")} {
				p, ok := marks.Move(at(line, 9), c)
				if q, okay := marks.Move(at(line, 9), c); p != q || ok != okay {
					t.Fatalf("Move(%d, at %d) is %v, then %v", line, from, p, q)
				}
			}
		}
	}
}

func TestMoveFollowsTheLinesOfAText(t *testing.T) {
	text := lines("a b c d e")
	for from := 0; from <= len(text); from++ {
		for end := from; end <= len(text); end++ {
			for _, with := range []string{"none", "", "x", "xyz", " ", "x yy", "xx y z", "x y z x y z x"} {
				c := api.Change{At: from, Old: text[from:end], New: lines(with)}
				behind := slices.Concat(text[:from], c.New, text[end:])
				for i, line := range text {
					p := at(i, 2)
					if found := slices.IndexFunc(behind, func(l []rune) bool { return slices.Equal(l, line) }); found >= 0 {
						wantMove(t, p, c, at(found, 2))
						wantMove(t, at(found, 2), turned(c), p) // 6.4
						continue
					}
					if i-from < len(c.New) {
						wantMove(t, p, c, at(i, min(2, len(behind[i]))))
						continue
					}
					wantGone(t, p, c)
				}
			}
		}
	}
}

func TestMoveOfAChangeOfManyLines(t *testing.T) {
	many := make([][]rune, 100000)
	many[99998] = make([]rune, 100000)
	c := api.Change{At: 5, Old: many, New: many[:99999]}
	wantMove(t, at(100002, 1), c, at(100002, 0))
	wantMove(t, at(100003, 1<<30), c, at(100003, 100000))
	wantGone(t, at(100004, 0), c)
	wantMove(t, at(100005, 1<<30), c, at(100004, 1<<30))
	wantGone(t, at(100003, 0), api.Change{At: 5, Old: many})
	wantMove(t, at(5, 7), api.Change{At: 5, New: many}, at(100005, 7))
}

// 6.2

// every is the names that there may be, rising.
const every = ".<>[]^`abcdefghijklmnopqrstuvwxyz"

// wantMark fails, if a mark is elsewhere.
func wantMark(t *testing.T, m *marks.Marks, name rune, want api.Pos) {
	t.Helper()
	if got, ok := m.Get(name); !ok || got != want {
		t.Fatalf("Get(%q) is %v (%t), not %v", name, got, ok, want)
	}
}

// wantNone fails, if there is a mark, or if a place is told of none.
func wantNone(t *testing.T, m *marks.Marks, name rune) {
	t.Helper()
	if got, ok := m.Get(name); ok || got != (api.Pos{}) {
		t.Fatalf("Get(%q) is %v (%t), not none", name, got, ok)
	}
}

// wantNames fails, if other marks are there.
func wantNames(t *testing.T, m *marks.Marks, want string) {
	t.Helper()
	if got := m.Names(); !slices.Equal(got, []rune(want)) {
		t.Fatalf("Names is %q, not %q", string(got), want)
	}
}

// wantSet fails, if setting a mark is answered otherwise.
func wantSet(t *testing.T, m *marks.Marks, name rune, p api.Pos, e api.Errno) {
	t.Helper()
	if got := m.Set(name, p); got != e {
		t.Fatalf("Set(%q, %v) is %d, not %d", name, p, got, e)
	}
}

// made tells new marks.
func made(t *testing.T) *marks.Marks {
	t.Helper()
	m := marks.New()
	if m == nil {
		t.Fatal("New is nil")
	}
	wantNames(t, m, "")
	wantJumps(t, m, 0)
	return m
}

func TestNewHasNoMarks(t *testing.T) {
	m := made(t)
	for name := rune(-1); name < 256; name++ {
		wantNone(t, m, name)
	}
}

func TestEachNameMayBeSet(t *testing.T) {
	m := made(t)
	for i, name := range slices.Backward([]rune(every)) {
		wantSet(t, m, name, at(i, 2*i), api.OK)
		wantNames(t, m, every[i:])
	}
	for i, name := range every {
		wantMark(t, m, name, at(i, 2*i))
	}
	wantJumps(t, m, 0)
}

func TestNoOtherNameMayBeSet(t *testing.T) {
	m := made(t)
	others := []rune{math.MinInt32, math.MaxInt32, 0x3B1, 0x4E2D, 0xD800, 0xFFFD, 0xFF41, 0x110000, 'a' + 256, '.' + 256, '`' + 65536, -'a'}
	for name := rune(-3); name < 300; name++ {
		if !strings.ContainsRune(every, name) {
			others = append(others, name)
		}
	}
	for _, name := range others {
		wantSet(t, m, name, at(1, 2), api.ErrArg)
		wantNone(t, m, name)
	}
	wantNames(t, m, "")
}

// tooFar are places that may not be set or pushed.
var tooFar = []api.Pos{
	at(1<<30+1, 0), at(0, 1<<30+1), at(1<<30+1, 1<<30+1), at(-1, 0), at(0, -1), at(-1, -1), at(1<<30, 1<<30+1), at(1<<30+1, 1<<30),
	at(1<<32, 0), at(0, 1<<32), at(math.MaxInt, 0), at(0, math.MaxInt), at(math.MinInt, 0), at(0, math.MinInt), at(math.MinInt, math.MaxInt),
}

// notTooFar are the ones beside them.
var notTooFar = []api.Pos{at(0, 0), at(1<<30, 0), at(0, 1<<30), at(1<<30, 1<<30), at(1<<30-1, 1)}

func TestPlacesThatMayBeSet(t *testing.T) {
	m := made(t)
	for _, p := range notTooFar {
		wantSet(t, m, 'q', p, api.OK)
		wantMark(t, m, 'q', p)
		for _, q := range tooFar {
			wantSet(t, m, 'q', q, api.ErrArg)
			wantSet(t, m, 'r', q, api.ErrArg)
			wantSet(t, m, 'Q', q, api.ErrArg)
		}
		wantMark(t, m, 'q', p) // what was there stays
		wantNames(t, m, "q")
	}
}

func TestAMarkIsSetAgain(t *testing.T) {
	m := made(t)
	wantSet(t, m, 'b', at(1, 2), api.OK)
	wantSet(t, m, 'a', at(1, 2), api.OK)
	wantSet(t, m, 'b', at(7, 0), api.OK)
	wantMark(t, m, 'a', at(1, 2))
	wantMark(t, m, 'b', at(7, 0))
	wantNames(t, m, "ab")
}

func TestAdjustMovesEachMark(t *testing.T) {
	m := made(t)
	for i, name := range every {
		wantSet(t, m, name, at(i, 5), api.OK)
	}
	c := change(3, "a b c d", "xyz ")
	m.Adjust(c)
	for i, name := range every {
		p, ok := marks.Move(at(i, 5), c)
		if !ok {
			wantNone(t, m, name)
			continue
		}
		wantMark(t, m, name, p)
	}
	wantNames(t, m, ".<>[]abcdefghijklmnopqrstuvwxyz")
	wantMark(t, m, ']', at(4, 0))
	wantMark(t, m, 'a', at(5, 5))
}

func TestAdjustByAChangeOfNothing(t *testing.T) {
	m := made(t)
	wantSet(t, m, 'a', at(3, 9), api.OK)
	m.Push(at(3, 8))
	m.Push(at(4, 7))
	m.Back(at(4, 7))
	for _, c := range []api.Change{{}, {At: 3}, {At: 4}, {At: -9}, {At: 3, Old: [][]rune{}, New: [][]rune{}}} {
		m.Adjust(c)
		wantMark(t, m, 'a', at(3, 9))
		wantJumps(t, m, 0, at(3, 8), at(4, 7))
	}
}

func TestAMarkThatIsGoneMayBeSetAgain(t *testing.T) {
	m := made(t)
	wantSet(t, m, 'a', at(3, 9), api.OK)
	m.Adjust(change(3, "x", "none"))
	wantNames(t, m, "")
	m.Adjust(change(3, "none", "x")) // and does not come back by itself
	wantNone(t, m, 'a')
	wantSet(t, m, 'a', at(2, 1), api.OK)
	wantMark(t, m, 'a', at(2, 1))
}

func TestMarksMayBeMovedFartherThanTheyMayBeSet(t *testing.T) {
	m := made(t)
	wantSet(t, m, 'a', at(1<<30, 1<<30), api.OK)
	wantSet(t, m, 'b', at(0, 0), api.OK)
	m.Push(at(1<<30, 3))
	m.Push(at(0, 3))
	m.Adjust(change(5, "none", "x y"))
	m.Adjust(change(-3, "x y", "none"))
	m.Adjust(change(-3, "x", "none"))
	wantMark(t, m, 'a', at(1<<30-1, 1<<30))
	wantMark(t, m, 'b', at(-3, 0))
	m.Adjust(change(-9, "none", "x y"))
	wantMark(t, m, 'a', at(1<<30+1, 1<<30))
	wantJumps(t, m, 2, at(1<<30+1, 3), at(-1, 3))
}

func TestAdjustByChangesTooFarEnds(t *testing.T) {
	for _, far := range farLines {
		m := made(t)
		wantSet(t, m, 'a', at(1, 1), api.OK)
		m.Push(at(1, 1))
		for _, c := range []api.Change{change(far, "none", "none"), change(far, "a b", "x"), change(far, "a", "x y")} {
			m.Adjust(c)
		}
	}
}

func TestNamesAreNew(t *testing.T) {
	m := made(t)
	wantSet(t, m, 'a', at(1, 1), api.OK)
	wantSet(t, m, 'b', at(2, 2), api.OK)
	names := m.Names()
	names[0], names[1] = 'y', 'z'
	_ = append(names, '?')
	wantNames(t, m, "ab")
	names = m.Names()
	wantSet(t, m, '.', at(3, 3), api.OK)
	m.Adjust(change(1, "x", "none"))
	if string(names) != "ab" {
		t.Fatalf("what was told is now %q", string(names))
	}
	wantNames(t, m, ".b")
}

func TestMarksShareNothing(t *testing.T) {
	m, n := made(t), made(t)
	wantSet(t, m, 'a', at(1, 1), api.OK)
	m.Push(at(1, 1))
	wantNone(t, n, 'a')
	wantJumps(t, n, 0)
	wantSet(t, n, 'a', at(2, 2), api.OK)
	n.Push(at(2, 2))
	n.Adjust(change(1, "x", "none"))
	wantMark(t, m, 'a', at(1, 1))
	wantMark(t, n, 'a', at(1, 2))
	wantJumps(t, m, 1, at(1, 1))
	wantJumps(t, n, 1, at(1, 2))
}

func TestAChangeIsLeftAsItIs(t *testing.T) {
	store := [][]rune{[]rune("ab"), []rune("cd"), []rune("xy"), []rune("z"), []rune("?")}
	c := api.Change{At: 1, Old: store[:2], New: store[2:4]}
	m := made(t)
	wantSet(t, m, 'a', at(1, 9), api.OK)
	wantSet(t, m, 'b', at(2, 9), api.OK)
	m.Push(at(1, 9))
	m.Adjust(c)
	wantMove(t, at(2, 9), c, at(2, 1))
	if !slices.EqualFunc(store, lines("ab cd xy z ?"), slices.Equal[[]rune]) || c.At != 1 || len(c.Old) != 2 || len(c.New) != 2 {
		t.Fatalf("the change is now %d %q %q", c.At, c.Old, c.New)
	}
	store[2] = nil
	wantMark(t, m, 'a', at(1, 2))
	wantMark(t, m, 'b', at(2, 1))
}

func TestNilMarks(t *testing.T) {
	var m *marks.Marks
	for _, name := range "a.Q" {
		wantSet(t, m, name, at(0, 0), api.ErrArg)
		wantSet(t, m, name, at(-1, 0), api.ErrArg)
		wantNone(t, m, name)
	}
	m.Push(at(1, 1))
	m.Push(at(2, 2))
	m.Adjust(change(0, "a", "x y"))
	m.Adjust(api.Change{At: math.MinInt})
	wantNames(t, m, "")
	wantNoBack(t, m, at(3, 3))
	wantNoBack(t, m, at(-3, 3))
	wantNoForth(t, m)
	wantJumps(t, m, 0)
}

// 6.4

func TestAPlaceOutsideComesBack(t *testing.T) {
	for from := -2; from < 6; from++ {
		for _, old := range []string{"none", "", "a", "a b", "a b c d"} {
			for _, new := range []string{"none", "", "xyz", "x y", "x y z x y z"} {
				c := change(from, old, new)
				for line := -4; line < 12; line++ {
					if line >= from && line < from+len(c.Old) {
						continue
					}
					p, ok := marks.Move(at(line, 7), c)
					if !ok {
						t.Fatalf("%d is gone behind %d %q %q", line, c.At, c.Old, c.New)
					}
					wantMove(t, p, turned(c), at(line, 7))
				}
			}
		}
	}
}

func TestMarksAndJumpsOutsideComeBack(t *testing.T) {
	m := made(t)
	wantSet(t, m, 'a', at(2, 9), api.OK)
	wantSet(t, m, 'b', at(5, 9), api.OK)
	m.Push(at(2, 8))
	m.Push(at(5, 8))
	for _, new := range []string{"none", "", "x", "x y", "x y z x y z"} {
		c := change(3, "a b", new)
		m.Adjust(c)
		m.Adjust(turned(c))
		wantMark(t, m, 'a', at(2, 9))
		wantMark(t, m, 'b', at(5, 9))
		wantNames(t, m, "ab")
		wantJumps(t, m, 2, at(2, 8), at(5, 8))
	}
}

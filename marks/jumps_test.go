package marks_test

import (
	"math"
	"slices"
	"testing"

	"inkhorn/api"
	"inkhorn/marks"
)

// wantJumps fails, if there are other jumps, or if the index is another one.
func wantJumps(t *testing.T, m *marks.Marks, index int, want ...api.Pos) {
	t.Helper()
	if got, i := m.Jumps(); i != index || !slices.Equal(got, want) {
		t.Fatalf("Jumps is %v (%d), not %v (%d)", got, i, want, index)
	}
}

// wantBack fails, if going back leads elsewhere.
func wantBack(t *testing.T, m *marks.Marks, p, want api.Pos) {
	t.Helper()
	if got, ok := m.Back(p); !ok || got != want {
		t.Fatalf("Back(%v) is %v (%t), not %v", p, got, ok, want)
	}
}

// wantNoBack fails, if going back leads anywhere.
func wantNoBack(t *testing.T, m *marks.Marks, p api.Pos) {
	t.Helper()
	if got, ok := m.Back(p); ok || got != (api.Pos{}) {
		t.Fatalf("Back(%v) is %v (%t), not none", p, got, ok)
	}
}

// wantForth fails, if going on leads elsewhere.
func wantForth(t *testing.T, m *marks.Marks, want api.Pos) {
	t.Helper()
	if got, ok := m.Forth(); !ok || got != want {
		t.Fatalf("Forth is %v (%t), not %v", got, ok, want)
	}
}

// wantNoForth fails, if going on leads anywhere.
func wantNoForth(t *testing.T, m *marks.Marks) {
	t.Helper()
	if got, ok := m.Forth(); ok || got != (api.Pos{}) {
		t.Fatalf("Forth is %v (%t), not none", got, ok)
	}
}

// row tells places at the beginnings of lines.
func row(lines ...int) []api.Pos {
	var l []api.Pos
	for _, line := range lines {
		l = append(l, at(line, 0))
	}
	return l
}

// jumped tells marks with jumps at the beginnings of lines.
func jumped(t *testing.T, lines ...int) *marks.Marks {
	t.Helper()
	m := made(t)
	for _, p := range row(lines...) {
		m.Push(p)
	}
	wantJumps(t, m, len(lines), row(lines...)...)
	return m
}

// 6.3

func TestTheExampleOfJumps(t *testing.T) {
	m := made(t)
	m.Push(at(1, 0))
	m.Push(at(7, 3))
	wantBack(t, m, at(9, 0), at(7, 3))
	wantBack(t, m, at(7, 3), at(1, 0))
	wantNoBack(t, m, at(1, 0))
	wantForth(t, m, at(7, 3))
	wantForth(t, m, at(9, 0))
}

func TestPushIsTheLastOne(t *testing.T) {
	m := made(t)
	m.Push(at(9, 1))
	wantJumps(t, m, 1, at(9, 1))
	m.Push(at(2, 5))
	wantJumps(t, m, 2, at(9, 1), at(2, 5))
	m.Push(at(5, 0))
	wantJumps(t, m, 3, at(9, 1), at(2, 5), at(5, 0)) // in the order in which they came
	wantNames(t, m, "")
}

func TestPushInALineThatHasAJump(t *testing.T) {
	m := jumped(t, 1, 2, 3)
	m.Push(at(2, 7))
	wantJumps(t, m, 3, at(1, 0), at(3, 0), at(2, 7))
	m.Push(at(2, 7))
	wantJumps(t, m, 3, at(1, 0), at(3, 0), at(2, 7))
	m.Push(at(1, 9))
	wantJumps(t, m, 3, at(3, 0), at(2, 7), at(1, 9))
	m = jumped(t, 4)
	m.Push(at(4, 2))
	wantJumps(t, m, 1, at(4, 2))
}

func TestPushWithinTheList(t *testing.T) {
	m := jumped(t, 1, 2, 3)
	wantBack(t, m, at(4, 0), at(3, 0))
	wantBack(t, m, at(3, 0), at(2, 0))
	wantJumps(t, m, 1, row(1, 2, 3, 4)...)
	m.Push(at(8, 0)) // none of those behind the index goes
	wantJumps(t, m, 5, row(1, 2, 3, 4, 8)...)
	wantBack(t, m, at(8, 0), at(4, 0))
	wantBack(t, m, at(8, 0), at(3, 0))
	m.Push(at(1, 0))
	wantJumps(t, m, 5, row(2, 3, 4, 8, 1)...)
}

func TestPlacesThatMayBePushed(t *testing.T) {
	for _, p := range notTooFar {
		m := jumped(t, 5)
		m.Push(p)
		wantJumps(t, m, 2, at(5, 0), p)
	}
	for _, p := range append([]api.Pos{at(2, -1), at(2, 1<<30+1)}, tooFar...) { // 2 has a jump, too
		m := jumped(t, 2, 5)
		m.Push(p)
		wantJumps(t, m, 2, row(2, 5)...)
		wantBack(t, m, at(6, 0), at(5, 0))
		m.Push(p)
		wantJumps(t, m, 1, row(2, 5, 6)...)
		m = made(t)
		m.Push(p)
		wantJumps(t, m, 0)
	}
}

func TestPushUpToMaxJumps(t *testing.T) {
	m := made(t)
	var want []api.Pos
	for i := range api.MaxJumps {
		m.Push(at(i, i))
		want = append(want, at(i, i))
		wantJumps(t, m, i+1, want...)
	}
	m.Push(at(0, 9)) // its line has the eldest one: no other goes
	want = append(want[1:], at(0, 9))
	wantJumps(t, m, api.MaxJumps, want...)
	for i := range 3 * api.MaxJumps {
		m.Push(at(1000+i, 0))
		want = append(want[1:], at(1000+i, 0))
		wantJumps(t, m, api.MaxJumps, want...)
	}
}

func TestBackPushesAtMaxJumps(t *testing.T) {
	m := made(t)
	var want []api.Pos
	for i := range api.MaxJumps {
		m.Push(at(i, 0))
		want = append(want, at(i, 0))
	}
	want = append(want[1:], at(500, 1))
	wantBack(t, m, at(500, 1), at(api.MaxJumps-1, 0))
	wantJumps(t, m, api.MaxJumps-2, want...)
	for i := api.MaxJumps - 2; i > 0; i-- {
		wantBack(t, m, at(600, 0), at(i, 0))
	}
	wantNoBack(t, m, at(600, 0))
	wantJumps(t, m, 0, want...)
	for i := 2; i < api.MaxJumps; i++ {
		wantForth(t, m, at(i, 0))
	}
	wantForth(t, m, at(500, 1))
	wantNoForth(t, m)
	wantJumps(t, m, api.MaxJumps-1, want...)
}

func TestBackFromBehindTheLast(t *testing.T) {
	m := jumped(t, 1, 2)
	wantBack(t, m, at(9, 4), at(2, 0))
	wantJumps(t, m, 1, at(1, 0), at(2, 0), at(9, 4))
	m = jumped(t, 1, 2, 3)
	wantBack(t, m, at(2, 4), at(3, 0)) // its line has one
	wantJumps(t, m, 1, at(1, 0), at(3, 0), at(2, 4))
	m = jumped(t, 1, 2)
	wantBack(t, m, at(2, 4), at(1, 0)) // that is the last one
	wantJumps(t, m, 0, at(1, 0), at(2, 4))
}

func TestBackFromWithinPushesNothing(t *testing.T) {
	m := jumped(t, 1, 2, 3)
	wantBack(t, m, at(4, 0), at(3, 0))
	wantBack(t, m, at(99, 0), at(2, 0))
	wantBack(t, m, at(-1, 0), at(1, 0))
	wantJumps(t, m, 0, row(1, 2, 3, 4)...)
	wantForth(t, m, at(2, 0))
	wantForth(t, m, at(3, 0))
	wantForth(t, m, at(4, 0))
	wantJumps(t, m, 3, row(1, 2, 3, 4)...) // the last one's, not their number
	wantBack(t, m, at(99, 0), at(3, 0))
	wantJumps(t, m, 2, row(1, 2, 3, 4)...)
}

func TestBackWhereThereIsNone(t *testing.T) {
	m := made(t)
	wantNoBack(t, m, at(3, 3))
	wantJumps(t, m, 0, at(3, 3)) // it was pushed
	wantNoBack(t, m, at(4, 4))
	wantJumps(t, m, 0, at(3, 3)) // where the index is not their number it is not
	wantNoForth(t, m)
	m = jumped(t, 3)
	wantNoBack(t, m, at(3, 3))
	wantJumps(t, m, 0, at(3, 3))
	m = jumped(t, 1, 2)
	wantBack(t, m, at(2, 0), at(1, 0))
	for range 3 {
		wantNoBack(t, m, at(1, 0))
		wantJumps(t, m, 0, row(1, 2)...)
	}
}

func TestBackOfAPlaceThatMayNotBePushed(t *testing.T) {
	for _, p := range tooFar {
		m := made(t)
		wantNoBack(t, m, p)
		wantJumps(t, m, 0)
		m = jumped(t, 1)
		wantNoBack(t, m, p)
		wantJumps(t, m, 0, row(1)...)
		m = jumped(t, 1, 2, 3) // the index is one less than their number, and then one less
		wantBack(t, m, p, at(2, 0))
		wantJumps(t, m, 1, row(1, 2, 3)...)
		wantBack(t, m, p, at(1, 0))
		wantNoBack(t, m, p)
		wantForth(t, m, at(2, 0))
		wantForth(t, m, at(3, 0))
		wantNoForth(t, m)
	}
}

func TestForthAtTheLast(t *testing.T) {
	m := made(t)
	wantNoForth(t, m)
	wantJumps(t, m, 0)
	m = jumped(t, 1, 2)
	wantNoForth(t, m) // behind all
	wantJumps(t, m, 2, row(1, 2)...)
	wantBack(t, m, at(3, 0), at(2, 0))
	wantForth(t, m, at(3, 0))
	for range 3 {
		wantNoForth(t, m)
		wantJumps(t, m, 2, row(1, 2, 3)...)
	}
}

// backTo tells marks with jumps at lines 1 to 6, and the index, which is below 5.
func backTo(t *testing.T, index int) *marks.Marks {
	t.Helper()
	m := jumped(t, 1, 2, 3, 4, 5)
	for line := 5; line > index; line-- {
		wantBack(t, m, at(6, 0), at(line, 0))
	}
	wantJumps(t, m, index, row(1, 2, 3, 4, 5, 6)...)
	return m
}

func TestAdjustTakesJumpsOut(t *testing.T) {
	for _, w := range []struct {
		at, count int // lines that go
		index     int
		want      []int
	}{
		{1, 1, 1, []int{1, 2, 3, 4, 5}}, // ahead of the index
		{2, 1, 1, []int{1, 2, 3, 4, 5}},
		{1, 2, 0, []int{1, 2, 3, 4}},
		{3, 1, 2, []int{1, 2, 3, 4, 5}}, // at it
		{4, 1, 2, []int{1, 2, 3, 4, 5}}, // behind it
		{5, 2, 2, []int{1, 2, 3, 4}},
		{3, 4, 2, []int{1, 2}}, // at it, and all behind
		{2, 2, 1, []int{1, 2, 3, 4}},
		{2, 4, 1, []int{1, 2}},
		{1, 6, 0, nil},
		{0, 9, 0, nil},
		{0, 1, 2, []int{0, 1, 2, 3, 4, 5}}, // none
		{7, 9, 2, []int{1, 2, 3, 4, 5, 6}},
	} {
		m := backTo(t, 2)
		m.Adjust(api.Change{At: w.at, Old: make([][]rune, w.count)})
		wantJumps(t, m, w.index, row(w.want...)...)
	}
}

func TestAdjustWhereTheIndexIsTheNumberOfJumps(t *testing.T) {
	m := jumped(t, 1, 2, 3, 4)
	m.Adjust(change(2, "a", "none"))
	wantJumps(t, m, 3, row(1, 2, 3)...)
	m.Adjust(change(3, "a", "none"))
	wantJumps(t, m, 2, row(1, 2)...)
	wantNoForth(t, m)
	m.Adjust(change(0, "a b c", "none"))
	wantJumps(t, m, 0)
	wantNoBack(t, m, at(7, 0))
	wantJumps(t, m, 0, at(7, 0))
}

func TestAdjustMovesJumps(t *testing.T) {
	m := made(t)
	for _, line := range []int{9, 3, 4, 1, 5} { // not in the order of their lines
		m.Push(at(line, 7))
	}
	m.Adjust(change(3, "a b", "xyz x y"))
	wantJumps(t, m, 5, at(10, 7), at(3, 3), at(4, 1), at(1, 7), at(6, 7))
	m.Adjust(change(3, "a b c", "xy"))
	wantJumps(t, m, 4, at(8, 7), at(3, 2), at(1, 7), at(4, 7))
	wantBack(t, m, at(0, 0), at(4, 7))
	wantBack(t, m, at(0, 0), at(1, 7))
	m.Adjust(change(0, "none", "x"))
	wantJumps(t, m, 2, at(9, 7), at(4, 2), at(2, 7), at(5, 7), at(1, 0))
	wantForth(t, m, at(5, 7))
}

func TestAfterAdjustTheLineOfAJumpIsItsNewOne(t *testing.T) {
	m := jumped(t, 1, 5)
	m.Adjust(change(2, "a", "x y z"))
	m.Push(at(5, 9))
	wantJumps(t, m, 3, at(1, 0), at(7, 0), at(5, 9))
	m.Push(at(7, 9))
	wantJumps(t, m, 3, at(1, 0), at(5, 9), at(7, 9))
}

func TestWhereTheJumpAtTheIndexIsGone(t *testing.T) {
	m := backTo(t, 2)
	m.Adjust(change(3, "a", "none"))
	wantForth(t, m, at(4, 0)) // behind the one that has come into its place
	m = backTo(t, 2)
	m.Adjust(change(3, "a", "none"))
	wantBack(t, m, at(3, 0), at(2, 0))
	m = backTo(t, 4)
	m.Adjust(change(5, "a b", "none"))
	wantJumps(t, m, 4, row(1, 2, 3, 4)...)
	wantNoForth(t, m)
	wantBack(t, m, at(8, 0), at(4, 0)) // the index is their number again
	wantJumps(t, m, 3, row(1, 2, 3, 4, 8)...)
}

func TestJumpsAreNew(t *testing.T) {
	m := jumped(t, 1, 2, 3)
	jumps, _ := m.Jumps()
	for i := range jumps {
		jumps[i] = at(99, 99)
	}
	_ = append(jumps, at(98, 98))
	m.Push(at(4, 0))
	wantJumps(t, m, 4, row(1, 2, 3, 4)...)
	jumps, _ = m.Jumps()
	m.Push(at(1, 5))
	m.Adjust(change(2, "a", "none"))
	if !slices.Equal(jumps, row(1, 2, 3, 4)) {
		t.Fatalf("what was told is now %v", jumps)
	}
	wantJumps(t, m, 3, at(2, 0), at(3, 0), at(1, 5))
}

// rolls makes a row of numbers from a seed, each from 0 on and below n: always the same ones.
func rolls(seed uint64) func(n int) int {
	return func(n int) int {
		seed = seed*6364136223846793005 + 1442695040888963407
		return int(seed>>33) % n
	}
}

// model is marks as the chapter's words say them: the jumps ahead of the index, and those from it on.
type model struct {
	places        map[rune]api.Pos
	ahead, behind []api.Pos
}

// push notes a jump.
func (m *model) push(p api.Pos) {
	if p.Line < 0 || p.Col < 0 {
		return
	}
	var all []api.Pos
	for _, q := range slices.Concat(m.ahead, m.behind) {
		if q.Line != p.Line {
			all = append(all, q)
		}
	}
	all = append(all, p)
	m.ahead, m.behind = all[max(0, len(all)-api.MaxJumps):], nil
}

// back goes back.
func (m *model) back(p api.Pos) (api.Pos, bool) {
	if len(m.behind) == 0 {
		m.push(p)
		m.turn()
	}
	return m.turn()
}

// turn tells the last jump ahead of the index, and lays it behind.
func (m *model) turn() (api.Pos, bool) {
	if len(m.ahead) == 0 {
		return api.Pos{}, false
	}
	p := m.ahead[len(m.ahead)-1]
	m.ahead = slices.Clone(m.ahead[:len(m.ahead)-1])
	m.behind = slices.Concat([]api.Pos{p}, m.behind)
	return p, true
}

// forth goes on.
func (m *model) forth() (api.Pos, bool) {
	if len(m.behind) < 2 {
		return api.Pos{}, false
	}
	m.ahead = append(slices.Clone(m.ahead), m.behind[0])
	m.behind = slices.Clone(m.behind[1:])
	return m.behind[0], true
}

// adjust moves all by a change.
func (m *model) adjust(c api.Change) {
	move := func(l []api.Pos) []api.Pos {
		var left []api.Pos
		for _, p := range l {
			if q, ok := marks.Move(p, c); ok {
				left = append(left, q)
			}
		}
		return left
	}
	m.ahead, m.behind = move(m.ahead), move(m.behind)
	left := map[rune]api.Pos{}
	for name, p := range m.places {
		if q, ok := marks.Move(p, c); ok {
			left[name] = q
		}
	}
	m.places = left
}

// step does one thing to the marks and to their model.
func (m *model) step(t *testing.T, x *marks.Marks, roll func(n int) int) {
	t.Helper()
	p := at(roll(150)-3, roll(40)-1)
	var got, want api.Pos
	var ok, okay bool
	switch roll(10) {
	case 0, 1, 2, 3:
		x.Push(p)
		m.push(p)
	case 4, 5:
		got, ok = x.Back(p)
		want, okay = m.back(p)
	case 6:
		got, ok = x.Forth()
		want, okay = m.forth()
	case 7:
		c := api.Change{At: roll(150), Old: make([][]rune, roll(4)), New: [][]rune{make([]rune, roll(40)), nil, {'x'}}[:roll(4)]}
		x.Adjust(c)
		m.adjust(c)
	default:
		name := rune(every[roll(len(every))])
		if x.Set(name, p) == api.OK {
			m.places[name] = p
		}
	}
	if ok != okay || got != want {
		t.Fatalf("%v (%t) is told, not %v (%t)", got, ok, want, okay)
	}
}

// check fails, if marks are not as their model.
func (m *model) check(t *testing.T, x *marks.Marks) {
	t.Helper()
	wantJumps(t, x, len(m.ahead), slices.Concat(m.ahead, m.behind)...)
	names := ""
	for _, name := range every {
		p, ok := m.places[name]
		if !ok {
			wantNone(t, x, name)
			continue
		}
		wantMark(t, x, name, p)
		names += string(name)
	}
	wantNames(t, x, names)
}

func TestManyDeeds(t *testing.T) {
	for seed := range uint64(40) {
		roll := rolls(seed)
		x, m := made(t), &model{places: map[rune]api.Pos{}}
		for range 1500 {
			m.step(t, x, roll)
			m.check(t, x)
		}
	}
}

func TestJumpsByChangesTooFarEnd(t *testing.T) {
	for _, far := range farLines {
		for index := range 5 {
			m := backTo(t, index)
			m.Adjust(change(far, "a b", "x"))
			m.Adjust(api.Change{At: 0, Old: make([][]rune, 9)})
			for range 20 {
				m.Forth()
			}
			for range 20 {
				m.Back(at(math.MaxInt, 0))
			}
			if l, i := m.Jumps(); i < 0 || i > len(l) {
				t.Fatalf("the index is %d of %d", i, len(l))
			}
		}
	}
}

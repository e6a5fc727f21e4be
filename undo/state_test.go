package undo_test

import (
	"slices"
	"testing"

	"inkhorn/api"
	"inkhorn/undo"
)

// rolls makes a row of numbers from a seed, each from 0 on and below n: always the same ones.
func rolls(seed uint64) func(n int) int {
	return func(n int) int {
		seed = seed*6364136223846793005 + 1442695040888963407
		return int(seed>>33) % n
	}
}

// state is a node as the chapter's words say it, and the lines that were there.
type state struct {
	group []api.Change
	on    int
	lines [][]rune
}

// model is a tree with the lines that it is about.
type model struct {
	nodes []state
	at    int
	open  bool
	group []api.Change
	lines [][]rune
}

// add changes some lines, and tells the tree.
func (m *model) add(t *testing.T, x *undo.Tree, roll func(n int) int) {
	t.Helper()
	at := roll(len(m.lines) + 1)
	end := at + roll(len(m.lines)-at+1)
	c := api.Change{At: at, Old: deep(m.lines[at:end])}
	for range roll(3) {
		c.New = append(c.New, slices.Repeat([]rune{rune('a' + roll(3))}, roll(3)))
	}
	if len(m.lines)-len(c.Old)+len(c.New) == 0 {
		return
	}
	done, e := undo.Do(m.lines, c)
	if e != api.OK {
		t.Fatalf("Do(%q, %d %q %q) is %d", m.lines, c.At, c.Old, c.New, e)
	}
	m.lines = done
	x.Add(c)
	if len(c.Old)+len(c.New) > 0 {
		m.group = append(m.group, c)
	}
	if !m.open {
		m.end()
	}
}

// end closes the open group.
func (m *model) end() {
	if len(m.group) > 0 {
		m.nodes = append(m.nodes, state{group: m.group, on: m.at, lines: m.lines})
		m.at = len(m.nodes) - 1
	}
	m.open, m.group = false, nil
}

// above tells the nodes from one up to the root, with both.
func (m *model) above(n int) []int {
	up := []int{n}
	for n > 0 {
		n = m.nodes[n].on
		up = append(up, n)
	}
	return up
}

// way goes to a node, and tells the changes that lead there.
func (m *model) way(to int) []api.Change {
	var way []api.Change
	up, down := m.above(m.at), m.above(to)
	for _, n := range up {
		if slices.Contains(down, n) {
			break
		}
		for _, c := range slices.Backward(m.nodes[n].group) {
			way = append(way, api.Change{At: c.At, Old: c.New, New: c.Old})
		}
	}
	for _, n := range slices.Backward(down) {
		if !slices.Contains(up, n) {
			way = append(way, m.nodes[n].group...)
		}
	}
	m.at = to
	return way
}

// follow does the changes, and fails, if they do not lead to the lines of the node that the model is at.
func (m *model) follow(t *testing.T, way []api.Change) {
	t.Helper()
	for _, c := range way {
		l, e := undo.Do(m.lines, c)
		if e != api.OK {
			t.Fatalf("Do(%q, %d %q %q) is %d", m.lines, c.At, c.Old, c.New, e)
		}
		m.lines = l
	}
	if want := m.nodes[m.at].lines; !same(m.lines, want) {
		t.Fatalf("at %d the lines are %q, not %q", m.at, m.lines, want)
	}
}

// step does one thing to the tree and to its model.
func (m *model) step(t *testing.T, x *undo.Tree, roll func(n int) int) {
	t.Helper()
	switch roll(12) {
	case 0:
		x.Begin()
		m.open = true
	case 1:
		x.End()
		m.end()
	case 2:
		m.end()
		to := roll(len(m.nodes) + 1)
		if to == len(m.nodes) {
			wantTo(t, x, to, api.ErrNone)
			return
		}
		way := m.way(to)
		wantTo(t, x, to, api.OK, way...)
		m.follow(t, way)
	case 3, 4:
		m.end()
		if m.at == 0 {
			wantUndo(t, x, api.ErrUndo)
			return
		}
		way := m.way(m.nodes[m.at].on)
		wantUndo(t, x, api.OK, way...)
		m.follow(t, way)
	case 5, 6:
		m.end()
		last := 0
		for n := range m.nodes {
			if n > 0 && m.nodes[n].on == m.at {
				last = n
			}
		}
		if last == 0 {
			wantRedo(t, x, api.ErrUndo)
			return
		}
		way := m.way(last)
		wantRedo(t, x, api.OK, way...)
		m.follow(t, way)
	default:
		m.add(t, x, roll)
	}
}

// 5.4

func TestManyDeeds(t *testing.T) {
	for seed := range uint64(100) {
		roll := rolls(seed)
		first := lines(someLines[1+roll(len(someLines)-1)])
		m := &model{nodes: []state{{lines: first}}, lines: first}
		x := made(t)
		for range 300 {
			m.step(t, x, roll)
			wantTree(t, x, len(m.nodes)-1, m.at)
		}
		x.End()
		m.end()
		for n := range m.nodes {
			way, e := x.To(n)
			if e != api.OK {
				t.Fatalf("To(%d) is %d", n, e)
			}
			m.at = n
			m.follow(t, way)
		}
	}
}

func TestAsManyUndosAndRedosLeaveTheLines(t *testing.T) {
	roll := rolls(7)
	m := &model{nodes: []state{{lines: lines("a b c")}}, lines: lines("a b c")}
	x := made(t)
	for len(m.nodes) <= 50 {
		m.open = true
		x.Begin()
		m.add(t, x, roll)
		m.add(t, x, roll)
		m.end()
		x.End()
	}
	for n := range 51 {
		for _, turn := range []func() ([]api.Change, api.Errno){x.Undo, x.Redo} {
			for range n {
				way, e := turn()
				if e != api.OK {
					t.Fatalf("%d there and back: %d", n, e)
				}
				m.at = x.At()
				m.follow(t, way)
			}
		}
		wantTree(t, x, 50, 50)
	}
}

func TestWhatIsAddedIsNotKept(t *testing.T) {
	line := []rune("ab")
	c := api.Change{At: 1, Old: [][]rune{line, line[:1], []rune("o")}[:2], New: [][]rune{line, line[:0], []rune("n")}[:2]}
	x := made(t)
	x.Add(c)
	x.Begin()
	x.Add(c)
	spoil([][]rune{line})
	c.Old[0], c.New[1] = nil, []rune("?")
	if !same(c.Old[2:3], lines("o")) || !same(c.New[2:3], lines("n")) {
		t.Fatalf("behind the lists' ends there is %q, %q", c.Old[2:3], c.New[2:3])
	}
	for range 2 {
		wantUndo(t, x, api.OK, change(1, "ab ", "ab a"))
	}
}

// spoilWay fails, if changes are not as often the same one, or share memory with one another or within; and writes over all that they have.
func spoilWay(t *testing.T, way []api.Change, n int, want api.Change) {
	t.Helper()
	if len(way) != n {
		t.Fatalf("%d changes were told, not %d", len(way), n)
	}
	for i, c := range way {
		if !sameChange(c, want) {
			t.Fatalf("change %d is %q %q", i, c.Old, c.New)
		}
		spoil(c.Old[:1])
		if !same(c.Old[1:], want.Old[1:]) || !same(c.New, want.New) {
			t.Fatalf("lines of change %d share memory: %q %q", i, c.Old, c.New)
		}
		spoil(c.Old)
		spoil(c.New)
		c.Old[0], c.New[0] = nil, nil
		_, _ = append(c.Old, []rune("?")), append(c.New, []rune("?"))
		way[i] = api.Change{}
	}
}

func TestWhatATreeTellsIsNew(t *testing.T) {
	line := []rune("ab")
	c := api.Change{At: 1, Old: [][]rune{line, line}, New: [][]rune{line, line}}
	x := made(t)
	x.Begin()
	x.Add(c)
	x.Add(c)
	x.End()
	x.Add(c)
	for range 3 { // what was told, and written over, is not told again
		for _, n := range []int{1, 2} {
			way, _ := x.Undo()
			spoilWay(t, way, n, c)
		}
		for _, n := range []int{2, 1} {
			way, _ := x.Redo()
			spoilWay(t, way, n, c)
		}
		for _, to := range []int{0, 2} {
			way, _ := x.To(to)
			spoilWay(t, way, 3, c)
		}
	}
}

func TestManyChangesInOneGroup(t *testing.T) {
	x := made(t)
	x.Begin()
	for i := range 100000 {
		x.Add(nth(i))
	}
	wantTree(t, x, 0, 0)
	for range 3 {
		way, e := x.Undo()
		if e != api.OK || len(way) != 100000 || !sameChange(way[0], htn(99999)) || !sameChange(way[99999], htn(0)) {
			t.Fatalf("Undo is %d changes (%d)", len(way), e)
		}
		way, e = x.Redo()
		if e != api.OK || len(way) != 100000 || !sameChange(way[0], nth(0)) || !sameChange(way[99999], nth(99999)) {
			t.Fatalf("Redo is %d changes (%d)", len(way), e)
		}
	}
}

func TestTreesShareNothing(t *testing.T) {
	x, y := made(t), made(t)
	x.Begin()
	y.Add(nth(1))
	y.Add(nth(2))
	wantTree(t, y, 2, 2)
	wantTree(t, x, 0, 0)
	x.Add(nth(3))
	wantUndo(t, y, api.OK, htn(2))
	wantTree(t, x, 0, 0)
	x.End()
	wantTree(t, x, 1, 1)
	wantTree(t, y, 2, 1)
	wantUndo(t, x, api.OK, htn(3))
	wantRedo(t, y, api.OK, nth(2))
}

package undo_test

import (
	"math"
	"strconv"
	"testing"

	"inkhorn/api"
	"inkhorn/undo"
)

// made tells a new tree.
func made(t *testing.T) *undo.Tree {
	t.Helper()
	x := undo.New()
	if x == nil {
		t.Fatal("New is nil")
	}
	wantTree(t, x, 0, 0)
	return x
}

// wantTree fails, if the tree has another number of nodes beside the root, or is at another one.
func wantTree(t *testing.T, x *undo.Tree, n, at int) {
	t.Helper()
	if x.Len() != n || x.At() != at {
		t.Fatalf("Len and At are %d and %d, not %d and %d", x.Len(), x.At(), n, at)
	}
}

// wantWay fails, if other changes, or another error, were told.
func wantWay(t *testing.T, what string, got []api.Change, f api.Errno, want []api.Change, e api.Errno) {
	t.Helper()
	if f != e || len(got) != len(want) {
		t.Fatalf("%s is %d changes (%d), not %d (%d)", what, len(got), f, len(want), e)
	}
	for i, c := range want {
		if g := got[i]; !sameChange(g, c) {
			t.Fatalf("%s: change %d is %d %q %q, not %d %q %q", what, i, g.At, g.Old, g.New, c.At, c.Old, c.New)
		}
	}
}

// wantUndo fails, if undoing is answered otherwise.
func wantUndo(t *testing.T, x *undo.Tree, e api.Errno, want ...api.Change) {
	t.Helper()
	got, f := x.Undo()
	wantWay(t, "Undo", got, f, want, e)
}

// wantRedo fails, if redoing is answered otherwise.
func wantRedo(t *testing.T, x *undo.Tree, e api.Errno, want ...api.Change) {
	t.Helper()
	got, f := x.Redo()
	wantWay(t, "Redo", got, f, want, e)
}

// wantTo fails, if going to a node is answered otherwise.
func wantTo(t *testing.T, x *undo.Tree, n int, e api.Errno, want ...api.Change) {
	t.Helper()
	got, f := x.To(n)
	wantWay(t, "To("+strconv.Itoa(n)+")", got, f, want, e)
}

// nth tells a change that no other number's is.
func nth(n int) api.Change {
	return api.Change{At: n, Old: [][]rune{{'o', rune(n)}}, New: [][]rune{{'n', rune(n)}, {}}}
}

// htn tells that change turned.
func htn(n int) api.Change {
	return api.Change{At: n, Old: [][]rune{{'n', rune(n)}, {}}, New: [][]rune{{'o', rune(n)}}}
}

// nothings are changes that have neither Old nor New.
var nothings = []api.Change{{}, {At: 7}, {At: -1}, {At: math.MaxInt, Old: [][]rune{}, New: [][]rune{}}, {At: math.MinInt, Old: [][]rune{}}, {New: [][]rune{}}}

// 5.2

func TestTheExampleOfATree(t *testing.T) {
	x := made(t)
	x.Add(nth(1))
	wantTree(t, x, 1, 1)
	x.Add(nth(2))
	wantTree(t, x, 2, 2)
	wantUndo(t, x, api.OK, htn(2))
	wantTree(t, x, 2, 1)
	x.Add(nth(3))
	wantTree(t, x, 3, 3)
	wantTo(t, x, 2, api.OK, htn(3), nth(2))
	wantTree(t, x, 3, 2)
}

func TestNewTree(t *testing.T) {
	x := made(t)
	wantUndo(t, x, api.ErrUndo)
	wantRedo(t, x, api.ErrUndo)
	wantTo(t, x, 0, api.OK)
	wantTo(t, x, 1, api.ErrNone)
	wantTree(t, x, 0, 0)
}

func TestAGroupIsOneNode(t *testing.T) {
	x := made(t)
	x.Begin()
	for i := range 5 {
		x.Add(nth(i))
		wantTree(t, x, 0, 0) // it is none ahead of its end
	}
	x.End()
	wantTree(t, x, 1, 1)
	x.Add(nth(5)) // none is open now
	wantTree(t, x, 2, 2)
	wantUndo(t, x, api.OK, htn(5))
	wantUndo(t, x, api.OK, htn(4), htn(3), htn(2), htn(1), htn(0))
	wantUndo(t, x, api.ErrUndo)
	wantRedo(t, x, api.OK, nth(0), nth(1), nth(2), nth(3), nth(4))
	wantRedo(t, x, api.OK, nth(5))
	wantRedo(t, x, api.ErrUndo)
}

func TestBeginWhereAGroupIsOpen(t *testing.T) {
	x := made(t)
	x.Begin()
	x.Begin()
	x.Add(nth(1))
	x.Begin()
	x.Add(nth(2))
	x.End() // one is enough
	wantTree(t, x, 1, 1)
	x.Add(nth(3))
	wantTree(t, x, 2, 2)
	wantTo(t, x, 1, api.OK, htn(3))
	wantUndo(t, x, api.OK, htn(2), htn(1))
}

func TestEndWhereNoGroupIsOpen(t *testing.T) {
	x := made(t)
	x.End()
	wantTree(t, x, 0, 0)
	x.Add(nth(1))
	x.End()
	x.End()
	wantTree(t, x, 1, 1)
	x.Add(nth(2))
	wantTree(t, x, 2, 2)
	wantUndo(t, x, api.OK, htn(2))
	x.End()
	wantTree(t, x, 2, 1)
}

func TestAGroupWithoutChangesIsNoNode(t *testing.T) {
	x := made(t)
	x.Add(nth(1))
	x.Add(nth(2))
	wantUndo(t, x, api.OK, htn(2))
	for range 3 {
		x.Begin()
		x.End()
		wantTree(t, x, 2, 1)
	}
	wantRedo(t, x, api.OK, nth(2))
}

func TestAChangeOfNothingIsNotAdded(t *testing.T) {
	x := made(t)
	for _, c := range nothings {
		x.Add(c)
		wantTree(t, x, 0, 0)
		x.Begin()
		x.Add(c)
		x.End()
		wantTree(t, x, 0, 0)
	}
	x.Begin()
	for _, c := range nothings {
		x.Add(c)
	}
	x.Add(nth(1))
	wantTree(t, x, 0, 0) // a change of nothing closes no group
	for _, c := range nothings {
		x.Add(c)
	}
	x.Add(nth(2))
	x.End()
	wantTree(t, x, 1, 1)
	wantUndo(t, x, api.OK, htn(2), htn(1))
}

func TestAChangeOfOldOrNewAloneIsAdded(t *testing.T) {
	x := made(t)
	in, out := change(3, "none", ""), change(-1, "", "none") // that a change may be done is not asked
	same := change(math.MaxInt, "a b", "a b")
	x.Add(in)
	x.Add(out)
	x.Add(same)
	wantTree(t, x, 3, 3)
	wantUndo(t, x, api.OK, same)
	wantUndo(t, x, api.OK, change(-1, "none", ""))
	wantUndo(t, x, api.OK, change(3, "", "none"))
	wantTo(t, x, 3, api.OK, in, out, same)
}

// full tells a tree with as many nodes as there may be, at a node: of 1 to MaxUndo, each with its number's change, each but 1 stands on the one ahead.
func full(t *testing.T, at int) *undo.Tree {
	t.Helper()
	x := made(t)
	for i := range api.MaxUndo {
		x.Add(nth(i + 1))
		if x.Len() != i+1 || x.At() != i+1 {
			t.Fatalf("behind %d changes Len and At are %d and %d", i+1, x.Len(), x.At())
		}
	}
	if way, e := x.To(at); e != api.OK || len(way) != api.MaxUndo-at {
		t.Fatalf("To(%d) is %d changes (%d)", at, len(way), e)
	}
	return x
}

func TestAsManyNodesAsThereMayBe(t *testing.T) {
	x := full(t, api.MaxUndo)
	for i := api.MaxUndo; i > 0; i-- {
		wantUndo(t, x, api.OK, htn(i))
		wantTree(t, x, api.MaxUndo, i-1)
	}
	wantUndo(t, x, api.ErrUndo)
	for i := range api.MaxUndo {
		wantRedo(t, x, api.OK, nth(i+1))
	}
	wantRedo(t, x, api.ErrUndo)
	wantTo(t, x, api.MaxUndo+1, api.ErrNone)
	wantTree(t, x, api.MaxUndo, api.MaxUndo)
}

func TestOneNodeMoreForgetsAll(t *testing.T) {
	for _, at := range []int{0, 1, api.MaxUndo / 2, api.MaxUndo - 1, api.MaxUndo} {
		x := full(t, at)
		x.Begin()
		x.Add(nth(7))
		x.Add(nth(8))
		wantTree(t, x, api.MaxUndo, at) // it is no node yet
		x.End()
		wantTree(t, x, 1, 1)
		wantRedo(t, x, api.ErrUndo)
		for _, n := range []int{2, at + 2, api.MaxUndo, api.MaxUndo + 1} {
			wantTo(t, x, n, api.ErrNone)
		}
		wantUndo(t, x, api.OK, htn(8), htn(7))
		wantUndo(t, x, api.ErrUndo)
		wantRedo(t, x, api.OK, nth(7), nth(8))
		wantRedo(t, x, api.ErrUndo)
		for i := 2; i <= api.MaxUndo; i++ { // there is room again
			x.Add(nth(i))
		}
		wantTree(t, x, api.MaxUndo, api.MaxUndo)
		x.Add(nth(1))
		wantTree(t, x, 1, 1)
	}
}

func TestWhatMakesNoNodeForgetsNothing(t *testing.T) {
	x := full(t, 2)
	x.End()
	x.Begin()
	x.End()
	for _, c := range nothings {
		x.Add(c)
		x.Begin()
		x.Add(c)
		x.End()
	}
	wantTree(t, x, api.MaxUndo, 2)
	wantRedo(t, x, api.OK, nth(3))
	wantUndo(t, x, api.OK, htn(3))
	wantUndo(t, x, api.OK, htn(2))
}

func TestAnOpenGroupForgetsAllWhereItIsClosed(t *testing.T) {
	for _, at := range []int{0, 5, api.MaxUndo} {
		open := func() *undo.Tree {
			x := full(t, at)
			x.Begin()
			x.Add(nth(7))
			return x
		}
		x := open()
		wantUndo(t, x, api.OK, htn(7))
		wantTree(t, x, 1, 0)
		x = open()
		wantRedo(t, x, api.ErrUndo)
		wantTree(t, x, 1, 1)
		x = open()
		wantTo(t, x, 5, api.ErrNone) // it is no more
		wantTree(t, x, 1, 1)
		x = open()
		wantTo(t, x, 0, api.OK, htn(7))
		wantTree(t, x, 1, 0)
	}
}

// 5.3

func TestUndoClosesTheGroup(t *testing.T) {
	x := made(t)
	x.Add(nth(1))
	x.Begin()
	x.Add(nth(2))
	x.Add(nth(3))
	wantUndo(t, x, api.OK, htn(3), htn(2))
	wantTree(t, x, 2, 1)
	x.Add(nth(4))
	x.Add(nth(5)) // each a node: no group is open
	wantTree(t, x, 4, 4)
	x.Begin()
	wantUndo(t, x, api.OK, htn(5)) // a group without changes is nothing to undo
	x.Add(nth(6))
	wantTree(t, x, 5, 5)
}

func TestRedoClosesTheGroup(t *testing.T) {
	x := made(t)
	x.Add(nth(1))
	x.Add(nth(2))
	wantTo(t, x, 1, api.OK, htn(2))
	x.Begin()
	x.Add(nth(3))
	wantRedo(t, x, api.ErrUndo) // nothing stands on what was the open group
	wantTree(t, x, 3, 3)
	wantTo(t, x, 1, api.OK, htn(3))
	x.Begin()
	wantRedo(t, x, api.OK, nth(3))
	x.Add(nth(4))
	x.Add(nth(5))
	wantTree(t, x, 5, 5)
}

func TestToClosesTheGroup(t *testing.T) {
	x := made(t)
	x.Add(nth(1))
	x.Begin()
	x.Add(nth(2))
	wantTo(t, x, 2, api.OK) // that is the group
	wantTree(t, x, 2, 2)
	x.Begin()
	x.Add(nth(3))
	wantTo(t, x, 1, api.OK, htn(3), htn(2))
	wantTree(t, x, 3, 1)
	x.Begin()
	wantTo(t, x, 3, api.OK, nth(2), nth(3))
	x.Add(nth(4))
	x.Add(nth(5))
	wantTree(t, x, 5, 5)
}

func TestErrorsCloseTheGroupToo(t *testing.T) {
	for _, fail := range []func(x *undo.Tree){
		func(x *undo.Tree) { wantUndo(t, x, api.ErrUndo) },
		func(x *undo.Tree) { wantRedo(t, x, api.ErrUndo) },
		func(x *undo.Tree) { wantTo(t, x, 1, api.ErrNone) },
		func(x *undo.Tree) { wantTo(t, x, -1, api.ErrNone) },
	} {
		x := made(t)
		x.Begin()
		fail(x)
		x.Add(nth(1))
		x.Add(nth(2))
		wantTree(t, x, 2, 2)
	}
}

func TestRedoTakesTheLastOneMade(t *testing.T) {
	x := made(t)
	for i := range 3 {
		x.Add(nth(i + 1))
		wantUndo(t, x, api.OK, htn(i+1))
	}
	for _, n := range []int{1, 2, 3, 1} { // whichever was left last
		wantTo(t, x, n, api.OK, nth(n))
		wantRedo(t, x, api.ErrUndo)
		wantUndo(t, x, api.OK, htn(n))
		wantRedo(t, x, api.OK, nth(3))
		wantTree(t, x, 3, 3)
		wantUndo(t, x, api.OK, htn(3))
	}
	wantTo(t, x, 1, api.OK, nth(1))
	x.Add(nth(4)) // the last one of all, but it stands on 1
	wantTo(t, x, 0, api.OK, htn(4), htn(1))
	wantRedo(t, x, api.OK, nth(3))
	wantTo(t, x, 1, api.OK, htn(3), nth(1))
	wantRedo(t, x, api.OK, nth(4))
}

func TestUndoGoesToTheNodeItStandsOn(t *testing.T) {
	x := made(t)
	x.Add(nth(1))
	x.Add(nth(2))
	wantTo(t, x, 0, api.OK, htn(2), htn(1))
	x.Add(nth(3)) // on the root, not on 2
	x.Add(nth(4))
	wantUndo(t, x, api.OK, htn(4))
	wantTree(t, x, 4, 3)
	wantUndo(t, x, api.OK, htn(3))
	wantTree(t, x, 4, 0)
	wantUndo(t, x, api.ErrUndo)
}

func TestToNoNode(t *testing.T) {
	x := made(t)
	x.Add(nth(1))
	x.Add(nth(2))
	wantUndo(t, x, api.OK, htn(2))
	for _, n := range []int{-1, 3, 4, math.MinInt, math.MaxInt} {
		wantTo(t, x, n, api.ErrNone)
		wantTree(t, x, 2, 1)
	}
	wantTo(t, x, 1, api.OK)
	wantRedo(t, x, api.OK, nth(2))
}

// branches tells a tree of nodes, each with two changes: 10 n, and one more. 1 and 5 stand on the root, 2 and 3 on 1, 4 on 3, 6 on 4, 7 on 2.
func branches(t *testing.T) *undo.Tree {
	t.Helper()
	x := made(t)
	for i, on := range []int{0, 1, 1, 3, 0, 4, 2} {
		if _, e := x.To(on); e != api.OK {
			t.Fatalf("To(%d) is %d", on, e)
		}
		x.Begin()
		x.Add(nth(10 * (i + 1)))
		x.Add(nth(10*(i+1) + 1))
		x.End()
		wantTree(t, x, i+1, i+1)
	}
	return x
}

func TestToFromBranchToBranch(t *testing.T) {
	for _, w := range []struct {
		from, to int
		up, down []int
	}{
		{0, 0, nil, nil}, {4, 4, nil, nil},
		{0, 6, nil, []int{1, 3, 4, 6}}, {6, 0, []int{6, 4, 3, 1}, nil},
		{1, 6, nil, []int{3, 4, 6}}, {6, 1, []int{6, 4, 3}, nil},
		{6, 7, []int{6, 4, 3}, []int{2, 7}}, {7, 6, []int{7, 2}, []int{3, 4, 6}},
		{2, 3, []int{2}, []int{3}}, {3, 2, []int{3}, []int{2}},
		{5, 7, []int{5}, []int{1, 2, 7}}, {7, 5, []int{7, 2, 1}, []int{5}},
		{5, 1, []int{5}, []int{1}}, {1, 5, []int{1}, []int{5}},
		{3, 7, []int{3}, []int{2, 7}}, {7, 3, []int{7, 2}, []int{3}},
	} {
		x := branches(t)
		x.To(w.from)
		var way []api.Change
		for _, n := range w.up {
			way = append(way, htn(10*n+1), htn(10*n))
		}
		for _, n := range w.down {
			way = append(way, nth(10*n), nth(10*n+1))
		}
		wantTo(t, x, w.to, api.OK, way...)
		wantTree(t, x, 7, w.to)
	}
}

func TestNilTree(t *testing.T) {
	var x *undo.Tree
	x.Begin()
	x.Add(nth(1))
	x.Add(api.Change{})
	x.End()
	wantTree(t, x, 0, 0)
	wantUndo(t, x, api.ErrArg)
	wantRedo(t, x, api.ErrArg)
	for _, n := range []int{0, 1, -1, math.MaxInt} {
		wantTo(t, x, n, api.ErrArg)
	}
}

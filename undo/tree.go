package undo

import (
	"slices"

	"inkhorn/api"
)

// node is a group that was closed. Its number is above that of the node on which it stands.
type node struct {
	group []api.Change
	on    int
	last  int // of the nodes that stand on it, the last one made; 0, as the root stands on none, if there is none
}

// Tree is what was done.
type Tree struct {
	nodes []node // by their numbers: the root, which has no group, is there always
	at    int
	open  bool         // a group is
	group []api.Change // the open one's
}

// New makes a tree.
func New() *Tree {
	return &Tree{nodes: make([]node, 1)}
}

// Begin opens a group.
func (t *Tree) Begin() {
	if t != nil {
		t.open = true
	}
}

// Add notes a change.
func (t *Tree) Add(c api.Change) {
	if t == nil || len(c.Old) == 0 && len(c.New) == 0 {
		return
	}
	if !t.open {
		t.Begin()
		defer t.End()
	}
	t.group = append(t.group, copied(c))
}

// End closes the group.
func (t *Tree) End() {
	if t == nil {
		return
	}
	group := t.group
	t.open, t.group = false, nil
	if len(group) > 0 {
		t.grow(group)
	}
}

// Undo tells what takes the last group back.
func (t *Tree) Undo() ([]api.Change, api.Errno) {
	if t == nil {
		return nil, api.ErrArg
	}
	t.End()
	if t.at == 0 {
		return nil, api.ErrUndo
	}
	return t.lead(t.nodes[t.at].on), api.OK
}

// Redo tells what does it again.
func (t *Tree) Redo() ([]api.Change, api.Errno) {
	if t == nil {
		return nil, api.ErrArg
	}
	t.End()
	if t.nodes[t.at].last == 0 {
		return nil, api.ErrUndo
	}
	return t.lead(t.nodes[t.at].last), api.OK
}

// Len tells how many nodes there are.
func (t *Tree) Len() int {
	if t == nil {
		return 0
	}
	return len(t.nodes) - 1
}

// At tells at which one it is.
func (t *Tree) At() int {
	if t == nil {
		return 0
	}
	return t.at
}

// To tells what leads to one.
func (t *Tree) To(n int) ([]api.Change, api.Errno) {
	if t == nil {
		return nil, api.ErrArg
	}
	t.End()
	if n < 0 || n > t.Len() {
		return nil, api.ErrNone
	}
	return t.lead(n), api.OK
}

// grow makes a group a node, and goes there.
func (t *Tree) grow(group []api.Change) {
	if t.Len() == api.MaxUndo {
		t.nodes, t.at = make([]node, 1), 0
	}
	t.nodes = append(t.nodes, node{group: group, on: t.at})
	t.nodes[t.at].last = t.Len()
	t.at = t.Len()
}

// lead goes to a node that is there, and tells the changes on the way. Of two nodes the one of the greater number does not lie on the other one's way up: it is left, till both ways have met.
func (t *Tree) lead(to int) []api.Change {
	up := func(n *int) []api.Change {
		left := t.nodes[*n]
		*n = left.on
		return left.group
	}
	var way []api.Change
	var down [][]api.Change
	for from, below := t.at, to; from != below; {
		if from < below {
			down = append(down, up(&below))
			continue
		}
		for _, c := range slices.Backward(up(&from)) {
			way = append(way, Turned(c))
		}
	}
	for _, group := range slices.Backward(down) {
		for _, c := range group {
			way = append(way, copied(c))
		}
	}
	t.at = to
	return way
}

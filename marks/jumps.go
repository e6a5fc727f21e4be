package marks

import (
	"slices"

	"inkhorn/api"
)

// Push notes a jump.
func (m *Marks) Push(p api.Pos) {
	if m == nil || !isNear(p) {
		return
	}
	others := slices.DeleteFunc(m.jumps, func(jump api.Pos) bool { return jump.Line == p.Line })
	m.jumps = append(others, p)
	if len(m.jumps) > api.MaxJumps {
		m.jumps = slices.Delete(m.jumps, 0, 1)
	}
	m.index = len(m.jumps)
}

// Back goes back.
func (m *Marks) Back(p api.Pos) (api.Pos, bool) {
	if m == nil {
		return api.Pos{}, false
	}
	if m.index == len(m.jumps) {
		m.Push(p)
		m.index = max(len(m.jumps)-1, 0) // a place that may not be pushed can leave none
	}
	if m.index == 0 {
		return api.Pos{}, false
	}
	m.index--
	return m.jumps[m.index], true
}

// Forth goes on.
func (m *Marks) Forth() (api.Pos, bool) {
	if m == nil || m.index+1 >= len(m.jumps) {
		return api.Pos{}, false
	}
	m.index++
	return m.jumps[m.index], true
}

// Jumps tells all jumps.
func (m *Marks) Jumps() ([]api.Pos, int) {
	if m == nil {
		return nil, 0
	}
	return slices.Clone(m.jumps), m.index
}

// adjustJumps moves the jumps by a change, and keeps the index at the one at which it is, or at what comes into its place.
func (m *Marks) adjustJumps(c api.Change) {
	kept, index := m.jumps[:0], m.index
	for i, p := range m.jumps {
		moved, ok := Move(p, c)
		if ok {
			kept = append(kept, moved)
		} else if i < m.index {
			index--
		}
	}
	m.jumps, m.index = kept, index
}

package keys

import (
	"slices"

	"inkhorn/api"
)

// The most runes that a map may have.
const (
	maxFrom = 16
	maxTo   = 64
)

// Board has maps.
type Board struct {
	maps  []meaning // no two of the same from
	waits []rune
}

// meaning is a map: runes, and what they mean.
type meaning struct{ from, to []rune }

// NewBoard makes one without any.
func NewBoard() *Board {
	return &Board{}
}

// Map lets runes mean others.
func (b *Board) Map(from, to []rune) api.Errno {
	if b == nil || len(from) == 0 || len(from) > maxFrom || len(to) > maxTo {
		return api.ErrArg
	}
	at := b.find(from)
	if at < 0 {
		if len(b.maps) == api.MaxMaps {
			return api.ErrFull
		}
		at = len(b.maps)
		b.maps = append(b.maps, meaning{from: slices.Clone(from)})
	}
	b.maps[at].to = slices.Clone(to)
	return api.OK
}

// Unmap lets them mean themselves.
func (b *Board) Unmap(from []rune) api.Errno {
	if b == nil {
		return api.ErrArg
	}
	at := b.find(from)
	if at < 0 {
		return api.ErrNone
	}
	b.maps = slices.Delete(b.maps, at, at+1)
	return api.OK
}

// find tells where the map of a from stands; -1, if there is none.
func (b *Board) find(from []rune) int {
	return slices.IndexFunc(b.maps, func(m meaning) bool { return slices.Equal(m.from, from) })
}

// Push hands it a rune.
func (b *Board) Push(r rune) ([]rune, api.Errno) {
	if b == nil {
		return nil, api.ErrArg
	}
	b.waits = append(b.waits, r)
	var told []rune
	taken := 0
	for len(b.waits) > 0 && !b.isBeginning() {
		m, ok := b.longest()
		if !ok {
			told = append(told, b.waits[0])
			b.waits = b.waits[1:]
			continue
		}
		if taken == api.MaxMap {
			b.waits = nil
			return told, api.ErrMap
		}
		taken++
		b.waits = slices.Concat(m.to, b.waits[len(m.from):])
	}
	return told, api.OK
}

// isBeginning tells whether all that waits begins a map's from that has more.
func (b *Board) isBeginning() bool {
	return slices.ContainsFunc(b.maps, func(m meaning) bool {
		return len(m.from) > len(b.waits) && begins(m.from, b.waits)
	})
}

// longest tells the map with the longest from with which what waits begins, and whether there is one.
func (b *Board) longest() (meaning, bool) {
	var most meaning
	for _, m := range b.maps {
		if len(m.from) > len(most.from) && begins(b.waits, m.from) {
			most = m
		}
	}
	return most, len(most.from) > 0
}

// begins tells whether runes begin with others.
func begins(l, with []rune) bool {
	return len(with) <= len(l) && slices.Equal(l[:len(with)], with)
}

// Waits tells how many runes wait.
func (b *Board) Waits() int {
	if b == nil {
		return 0
	}
	return len(b.waits)
}

package utf

import "slices"

// Feeder is fed bytes piece by piece, and holds those that do not tell a rune yet.
type Feeder struct {
	held  [3]byte // a scalar has at most 4 bytes, so no more than 3 are left undecided
	count int
}

// NewFeeder makes one that holds nothing.
func NewFeeder() *Feeder {
	return &Feeder{}
}

// Feed tells the runes that are decided by what is held and b.
func (f *Feeder) Feed(b ...byte) []rune {
	if f == nil {
		return nil
	}
	if f.count > 0 {
		b = slices.Concat(f.held[:f.count], b)
	}
	var l []rune
	for {
		r, n, more := Next(b)
		if more {
			f.count = copy(f.held[:], b)
			return l
		}
		l = append(l, r)
		b = b[n:]
	}
}

// Held tells how many bytes it holds.
func (f *Feeder) Held() int {
	if f == nil {
		return 0
	}
	return f.count
}

// Flush lets go of what is held, and tells a rune for each byte of it.
func (f *Feeder) Flush() []rune {
	if f == nil {
		return nil
	}
	l := slices.Repeat([]rune{replacement}, f.count)
	f.count = 0
	return l
}

package piece_test

import (
	"math"
	"slices"
	"testing"

	"inkhorn/api"
	"inkhorn/piece"
)

// 3.2

func TestBackToNoSuchNumber(t *testing.T) {
	p := made(t, []rune("abc"))
	for _, id := range []int{0, 1, -1, math.MinInt, math.MaxInt} {
		wantBack(t, p, id, api.ErrNone)
	}
	wantSave(t, p, 1)
	wantDelete(t, p, 0, 1, api.OK)
	for _, id := range []int{0, 2, -1, math.MinInt, math.MaxInt} {
		wantBack(t, p, id, api.ErrNone)
	}
	wantRow(t, p, []rune("bc"))
	wantSave(t, p, 2) // errors took no number
	wantBack(t, p, 2, api.OK)
	wantBack(t, p, 3, api.ErrNone)
}

func TestEachSaveHasItsOwnNumber(t *testing.T) {
	p := made(t, []rune("abc"))
	wantSave(t, p, 1)
	wantSave(t, p, 2)
	wantBack(t, p, 1, api.OK)
	wantSave(t, p, 3)
	wantDelete(t, p, 0, 1, api.OK)
	wantSave(t, p, 4)
	for id, l := range []string{"abc", "abc", "abc", "bc"} {
		wantBack(t, p, id+1, api.OK)
		wantRow(t, p, []rune(l))
	}
}

func TestBackToNothing(t *testing.T) {
	p := made(t, nil)
	wantSave(t, p, 1)
	wantInsert(t, p, 0, []rune("a"), api.OK)
	wantSave(t, p, 2)
	wantBack(t, p, 1, api.OK)
	wantRow(t, p, nil)
	wantInsert(t, p, 0, []rune("b"), api.OK)
	wantRow(t, p, []rune("b"))
	wantBack(t, p, 2, api.OK)
	wantRow(t, p, []rune("a"))
}

// someDeeds are changes that each touch pieces in a way of their own: at the beginning, within, at the end, over all.
var someDeeds = []func(p *piece.Table) api.Errno{
	func(p *piece.Table) api.Errno { return p.Insert(0, []rune("x")) },
	func(p *piece.Table) api.Errno { return p.Insert(1, []rune("x")) },
	func(p *piece.Table) api.Errno { return p.Insert(p.Len(), []rune("x")) },
	func(p *piece.Table) api.Errno { return p.Delete(0, 1) },
	func(p *piece.Table) api.Errno { return p.Delete(1, 1) },
	func(p *piece.Table) api.Errno { return p.Delete(p.Len()-1, 1) },
	func(p *piece.Table) api.Errno { return p.Delete(0, p.Len()) },
}

func TestNoChangeReachesWhatIsRemembered(t *testing.T) {
	for i, deed := range someDeeds {
		for j, other := range someDeeds {
			p := made(t, []rune("abc"))
			wantInsert(t, p, 3, []rune("d"), api.OK) // the last piece may grow
			wantSave(t, p, 1)
			for range 2 {
				if e := deed(p); e != api.OK {
					t.Fatalf("deed %d is %d", i, e)
				}
				wantBack(t, p, 1, api.OK)
				wantRow(t, p, []rune("abcd"))
				other(p)
				other(p)
				wantSave(t, p, p.Save()+1)
				deed(p)
				wantBack(t, p, 1, api.OK)
				wantRow(t, p, []rune("abcd"))
			}
			if t.Failed() {
				t.Fatalf("deeds %d and %d", i, j)
			}
		}
	}
}

func TestSaveOfManyPiecesOften(t *testing.T) {
	p := made(t, many(api.MaxRunes/2))
	for i := range 1000 {
		wantInsert(t, p, 3*i, []rune{-1}, api.OK)
	}
	for i := range 100000 {
		wantSave(t, p, i+1)
	}
	wantDelete(t, p, 0, p.Len(), api.OK)
	wantBack(t, p, 50000, api.OK)
	wantSlice(t, p, 0, 4, []rune{-1, 0, 1, -1}, api.OK)
}

func TestPiecesOfFewChanges(t *testing.T) {
	p := made(t, []rune("abcdef"))
	if p.Pieces() != 1 {
		t.Fatalf("Pieces is %d ahead of all changes", p.Pieces())
	}
	for range 10 { // nothing of it parts anything
		wantInsert(t, p, 7, nil, api.ErrRange)
		wantDelete(t, p, 2, 5, api.ErrRange)
		wantSlice(t, p, 2, 2, []rune("cd"), api.OK)
		wantBack(t, p, p.Save(), api.OK)
	}
	if p.Pieces() != 1 {
		t.Fatalf("Pieces is %d where nothing has changed", p.Pieces())
	}
	wantInsert(t, p, 3, []rune("x"), api.OK)
	if p.Pieces() < 1 || p.Pieces() > 3 {
		t.Fatalf("Pieces is %d behind one change", p.Pieces())
	}
	wantDelete(t, p, 1, 1, api.OK)
	if p.Pieces() < 1 || p.Pieces() > 5 {
		t.Fatalf("Pieces is %d behind two changes", p.Pieces())
	}
}

// rolls makes a row of numbers from a seed, each from 0 on and below n: always the same ones.
func rolls(seed uint64) func(n int) int {
	return func(n int) int {
		seed = seed*6364136223846793005 + 1442695040888963407
		return int(seed>>33) % n
	}
}

// model is a table as the chapter's words say it: its row, what is remembered, and how many changes were OK.
type model struct {
	row   []rune
	saved [][]rune
	deeds int
}

// there tells what is answered of n runes from at on.
func (m *model) there(at, n int) api.Errno {
	if at < 0 || at > len(m.row) || n < 0 || n > len(m.row)-at {
		return api.ErrRange
	}
	return api.OK
}

// step does one thing to the table and to its model.
func (m *model) step(t *testing.T, p *piece.Table, roll func(n int) int, next *rune) {
	t.Helper()
	at, n := roll(len(m.row)+3)-1, roll(6)-1
	switch roll(8) {
	case 0, 1, 2:
		l := make([]rune, max(n, 0))
		for i := range l {
			*next++
			l[i] = *next
		}
		wantInsert(t, p, at, l, m.there(at, 0))
		if m.there(at, 0) == api.OK {
			m.row = slices.Concat(m.row[:at], l, m.row[at:])
			m.deeds++
		}
	case 3, 4, 5:
		wantDelete(t, p, at, n, m.there(at, n))
		if m.there(at, n) == api.OK {
			m.row = slices.Concat(m.row[:at], m.row[at+n:])
			m.deeds++
		}
	case 6:
		m.saved = append(m.saved, m.row)
		wantSave(t, p, len(m.saved))
	case 7:
		id := roll(len(m.saved) + 2)
		if id < 1 || id > len(m.saved) {
			wantBack(t, p, id, api.ErrNone)
			return
		}
		wantBack(t, p, id, api.OK)
		m.row = m.saved[id-1]
	}
}

func TestManyDeeds(t *testing.T) {
	for seed := range uint64(60) {
		roll := rolls(seed)
		next := rune(1000)
		m := &model{row: many(roll(12))}
		p := made(t, m.row)
		for range 400 {
			m.step(t, p, roll, &next)
			wantRow(t, p, m.row)
			if p.Pieces() > 1+2*m.deeds {
				t.Fatalf("Pieces is %d behind %d changes", p.Pieces(), m.deeds)
			}
			at := roll(len(m.row) + 1)
			n := roll(len(m.row) - at + 1)
			wantSlice(t, p, at, n, m.row[at:at+n], api.OK)
		}
		for i, l := range m.saved {
			wantBack(t, p, i+1, api.OK)
			wantRow(t, p, l)
		}
	}
}

func TestTablesShareNothing(t *testing.T) {
	p, q := made(t, []rune("abc")), made(t, []rune("abc"))
	wantInsert(t, p, 1, []rune("x"), api.OK)
	wantSave(t, p, 1)
	wantBack(t, q, 1, api.ErrNone)
	wantRow(t, q, []rune("abc"))
	wantSave(t, q, 1)
	wantRow(t, p, []rune("axbc"))
}

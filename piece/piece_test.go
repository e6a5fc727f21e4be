package piece_test

import (
	"math"
	"slices"
	"testing"

	"inkhorn/api"
	"inkhorn/piece"
)

// many tells n runes, no two neighbours the same.
func many(n int) []rune {
	l := make([]rune, n)
	for i := range l {
		l[i] = rune(i % 1009)
	}
	return l
}

// made makes a table of a row, and fails, if there is none.
func made(t *testing.T, l []rune) *piece.Table {
	t.Helper()
	p := piece.New(l)
	if p == nil {
		t.Fatalf("New of %d runes is nil", len(l))
	}
	return p
}

// wantRow fails, if the table's row is another one, or is of no pieces where it has runes, or the other way round.
func wantRow(t *testing.T, p *piece.Table, l []rune) {
	t.Helper()
	if p.Len() != len(l) {
		t.Fatalf("Len is %d, not %d", p.Len(), len(l))
	}
	if got, e := p.Slice(0, len(l)); e != api.OK || !slices.Equal(got, l) {
		t.Fatalf("the row is %q (%d), not %q", string(got), e, string(l))
	}
	if (p.Pieces() == 0) != (len(l) == 0) || p.Pieces() < 0 {
		t.Fatalf("Pieces is %d of %d runes", p.Pieces(), len(l))
	}
}

// wantInsert fails, if putting in is answered otherwise.
func wantInsert(t *testing.T, p *piece.Table, at int, l []rune, e api.Errno) {
	t.Helper()
	if got := p.Insert(at, l); got != e {
		t.Fatalf("Insert(%d, %d runes) is %d, not %d", at, len(l), got, e)
	}
}

// wantDelete fails, if taking out is answered otherwise.
func wantDelete(t *testing.T, p *piece.Table, at, n int, e api.Errno) {
	t.Helper()
	if got := p.Delete(at, n); got != e {
		t.Fatalf("Delete(%d, %d) is %d, not %d", at, n, got, e)
	}
}

// wantSlice fails, if other runes, or another error, are told.
func wantSlice(t *testing.T, p *piece.Table, at, n int, l []rune, e api.Errno) {
	t.Helper()
	if got, f := p.Slice(at, n); f != e || !slices.Equal(got, l) {
		t.Fatalf("Slice(%d, %d) is %q (%d), not %q (%d)", at, n, string(got), f, string(l), e)
	}
}

// wantSave fails, if the row is remembered by another number.
func wantSave(t *testing.T, p *piece.Table, id int) {
	t.Helper()
	if got := p.Save(); got != id {
		t.Fatalf("Save is %d, not %d", got, id)
	}
}

// wantBack fails, if going back is answered otherwise.
func wantBack(t *testing.T, p *piece.Table, id int, e api.Errno) {
	t.Helper()
	if got := p.Back(id); got != e {
		t.Fatalf("Back(%d) is %d, not %d", id, got, e)
	}
}

// 3.1

func TestTheExample(t *testing.T) {
	p := made(t, []rune("abc"))
	wantInsert(t, p, 1, []rune("xy"), api.OK)
	wantRow(t, p, []rune("axybc"))
	wantDelete(t, p, 0, 2, api.OK)
	wantRow(t, p, []rune("ybc"))
	wantSlice(t, p, 1, 2, []rune("bc"), api.OK)
	wantSave(t, p, 1)
	wantDelete(t, p, 0, 3, api.OK)
	wantRow(t, p, nil)
	wantBack(t, p, 1, api.OK)
	wantRow(t, p, []rune("ybc"))
}

func TestNewOfNothing(t *testing.T) {
	for _, l := range [][]rune{nil, {}} {
		p := made(t, l)
		wantRow(t, p, nil)
		wantDelete(t, p, 0, 0, api.OK)
		wantDelete(t, p, 0, 1, api.ErrRange)
		wantSlice(t, p, 0, 1, nil, api.ErrRange)
		wantInsert(t, p, 1, nil, api.ErrRange)
		wantInsert(t, p, 0, nil, api.OK)
		wantRow(t, p, nil)
		wantInsert(t, p, 0, []rune("a"), api.OK)
		wantRow(t, p, []rune("a"))
	}
}

func TestNewUpToMaxRunes(t *testing.T) {
	for _, n := range []int{api.MaxRunes - 1, api.MaxRunes} {
		wantRow(t, made(t, many(n)), many(n))
	}
	if piece.New(many(api.MaxRunes+1)) != nil {
		t.Error("New of one more than MaxRunes is not nil")
	}
}

func TestAnyRunesAreKept(t *testing.T) {
	l := []rune{0, 10, -1, math.MinInt32, math.MaxInt32, 0xD800, 0x110000, 0x301}
	p := made(t, l)
	wantInsert(t, p, 4, l, api.OK)
	wantRow(t, p, slices.Concat(l[:4], l, l[4:]))
}

func TestInsertAtEachPlace(t *testing.T) {
	for _, l := range []string{"", "x", "xyz"} {
		for at := 0; at <= 3; at++ {
			p := made(t, []rune("abc"))
			wantInsert(t, p, at, []rune(l), api.OK)
			wantRow(t, p, []rune("abc"[:at]+l+"abc"[at:]))
		}
	}
}

func TestInsertOutOfRange(t *testing.T) {
	p := made(t, []rune("abc"))
	for _, at := range []int{-1, 4, math.MinInt, math.MaxInt} {
		wantInsert(t, p, at, nil, api.ErrRange)
		wantInsert(t, p, at, []rune("x"), api.ErrRange)
		wantInsert(t, p, at, many(api.MaxRunes+1), api.ErrRange) // it is named ahead of ErrFull
	}
	wantRow(t, p, []rune("abc"))
	if p.Pieces() != 1 {
		t.Errorf("an error left %d pieces", p.Pieces())
	}
}

func TestInsertUpToMaxRunes(t *testing.T) {
	p := made(t, []rune("abc"))
	wantInsert(t, p, 1, many(api.MaxRunes-2), api.ErrFull)
	wantRow(t, p, []rune("abc"))
	wantInsert(t, p, 1, many(api.MaxRunes-3), api.OK)
	full := slices.Concat([]rune("a"), many(api.MaxRunes-3), []rune("bc"))
	wantRow(t, p, full)
	for _, at := range []int{0, 1, api.MaxRunes} {
		wantInsert(t, p, at, []rune("x"), api.ErrFull)
		wantInsert(t, p, at, nil, api.OK)
	}
	wantInsert(t, p, api.MaxRunes+1, nil, api.ErrRange)
	wantRow(t, p, full)
	wantDelete(t, p, 0, 1, api.OK)
	wantInsert(t, p, api.MaxRunes-1, []rune("xy"), api.ErrFull)
	wantInsert(t, p, api.MaxRunes-1, []rune("x"), api.OK)
	wantRow(t, p, append(full[1:], 'x'))
}

func TestRoomIsOfTheRowNotOfTheStores(t *testing.T) {
	p := made(t, many(api.MaxRunes))
	for range 5 {
		wantDelete(t, p, 0, api.MaxRunes, api.OK)
		wantRow(t, p, nil)
		wantInsert(t, p, 0, many(api.MaxRunes), api.OK)
		wantRow(t, p, many(api.MaxRunes))
	}
}

func TestInsertRuneByRune(t *testing.T) {
	p := made(t, nil)
	l := many(api.MaxRunes)
	for i := range l {
		wantInsert(t, p, i, l[i:i+1], api.OK)
	}
	wantInsert(t, p, len(l), []rune("x"), api.ErrFull)
	wantRow(t, p, l)
}

func TestInsertRuneByRuneFromBehind(t *testing.T) {
	p := made(t, []rune("."))
	for _, r := range "edcba" {
		wantInsert(t, p, 0, []rune{r}, api.OK)
	}
	wantRow(t, p, []rune("abcde."))
}

func TestDeleteAndSliceOfEachRange(t *testing.T) {
	for at := 0; at <= 6; at++ {
		for n := 0; n <= 6-at; n++ {
			p := made(t, []rune("abc"))
			wantInsert(t, p, 1, []rune("xyz"), api.OK)
			wantSlice(t, p, at, n, []rune("axyzbc"[at:at+n]), api.OK)
			wantDelete(t, p, at, n, api.OK)
			wantRow(t, p, []rune("axyzbc"[:at]+"axyzbc"[at+n:]))
		}
	}
}

func TestDeleteAndSliceOutOfRange(t *testing.T) {
	p := made(t, []rune("abc"))
	for _, w := range [][2]int{
		{-1, 0}, {-1, 1}, {4, 0}, {4, -1}, {math.MinInt, 0}, {math.MaxInt, 0}, {math.MaxInt, math.MaxInt}, {math.MinInt, math.MaxInt},
		{0, -1}, {3, -1}, {2, math.MinInt}, {0, 4}, {1, 3}, {3, 1}, {0, math.MaxInt}, {3, math.MaxInt},
	} {
		wantDelete(t, p, w[0], w[1], api.ErrRange)
		wantSlice(t, p, w[0], w[1], nil, api.ErrRange)
	}
	wantRow(t, p, []rune("abc"))
	if p.Pieces() != 1 {
		t.Errorf("an error left %d pieces", p.Pieces())
	}
}

func TestWhatIsHandedInIsNotKept(t *testing.T) {
	first, added := []rune("abc"), []rune("xyz")
	p := made(t, first[:2])
	wantInsert(t, p, 1, added[:2], api.OK)
	wantInsert(t, p, 4, []rune("s"), api.OK)
	if string(first) != "abc" || string(added) != "xyz" {
		t.Fatalf("what was handed in is now %q, %q", string(first), string(added))
	}
	first[0], first[1], added[0], added[1] = '-', '-', '-', '-'
	wantRow(t, p, []rune("axybs"))
}

func TestWhatIsHandedOutIsNew(t *testing.T) {
	p := made(t, []rune("abc"))
	wantInsert(t, p, 3, []rune("xyz"), api.OK)
	for _, w := range [][2]int{{0, 3}, {3, 3}, {0, 6}, {1, 1}, {4, 1}} {
		l, _ := p.Slice(w[0], w[1])
		m, _ := p.Slice(w[0], w[1])
		l[0] = '-'
		_ = append(l, '-')
		if m[0] == '-' {
			t.Errorf("two answers of Slice(%d, %d) share memory", w[0], w[1])
		}
	}
	wantRow(t, p, []rune("abcxyz"))
}

func TestNilTable(t *testing.T) {
	var p *piece.Table
	if p.Len() != 0 || p.Save() != 0 || p.Pieces() != 0 {
		t.Errorf("Len, Save and Pieces are %d, %d, %d", p.Len(), p.Save(), p.Pieces())
	}
	for _, n := range []int{0, 1, -1} {
		wantInsert(t, p, n, nil, api.ErrArg)
		wantInsert(t, p, n, many(api.MaxRunes+1), api.ErrArg)
		wantDelete(t, p, n, n, api.ErrArg)
		wantSlice(t, p, n, n, nil, api.ErrArg)
		wantBack(t, p, n, api.ErrArg)
	}
}

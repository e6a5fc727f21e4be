package piece

import "slices"

// piece is the runes from one to another, which is not in it, of one of a table's stores.
type piece struct {
	added    bool // of the store of what was put in
	from, to int
}

// length tells how many runes a piece has.
func (p piece) length() int {
	return p.to - p.from
}

// row is pieces, none of them empty, and how many runes they have in all.
type row struct {
	pieces     []piece
	length     int
	remembered bool // others have the list of pieces too: it is copied ahead of the next change
}

// find tells which piece has a rune, and which of the piece's runes it is; behind the last rune, the number of pieces, and 0.
func (r *row) find(at int) (int, int) {
	for i, p := range r.pieces {
		if at < p.length() {
			return i, at
		}
		at -= p.length()
	}
	return len(r.pieces), 0
}

// put puts a piece in. If the piece ahead goes on in it, that one grows: what is typed rune by rune stays one piece.
func (r *row) put(at int, p piece) {
	if p.length() == 0 {
		return
	}
	r.own()
	i := r.cut(at)
	r.length += p.length()
	if i > 0 && r.pieces[i-1].added == p.added && r.pieces[i-1].to == p.from {
		r.pieces[i-1].to = p.to
		return
	}
	r.pieces = slices.Insert(r.pieces, i, p)
}

// drop takes n runes out.
func (r *row) drop(at, n int) {
	if n == 0 {
		return // a cut would leave one piece more for nothing
	}
	r.own()
	from := r.cut(at)
	to := r.cut(at + n)
	r.pieces = slices.Delete(r.pieces, from, to)
	r.length -= n
}

// cut makes a piece begin at a rune, and tells which one does.
func (r *row) cut(at int) int {
	i, within := r.find(at)
	if within == 0 {
		return i
	}
	ahead, behind := r.pieces[i], r.pieces[i]
	ahead.to = ahead.from + within
	behind.from = ahead.to
	r.pieces = slices.Replace(r.pieces, i, i+1, ahead, behind)
	return i + 1
}

// own makes the list of pieces the row's alone.
func (r *row) own() {
	if !r.remembered {
		return
	}
	l := make([]piece, len(r.pieces))
	copy(l, r.pieces)
	r.pieces, r.remembered = l, false
}

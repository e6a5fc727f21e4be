// Package utf is layer 1: runes as bytes of UTF-8, and bytes as runes. See shared/doc/01-utf.md.
package utf

const (
	surrogateFirst = 0xD800
	surrogateLast  = 0xDFFF
	scalarLast     = 0x10FFFF
	replacement    = 0xFFFD // counts for what is no scalar, and for each byte that begins none
)

// Valid tells whether r is a scalar.
func Valid(r rune) bool {
	return 0 <= r && r < surrogateFirst || surrogateLast < r && r <= scalarLast
}

// Len tells how many bytes r has.
func Len(r rune) int {
	switch r = scalar(r); {
	case r <= 0x7F:
		return 1
	case r <= 0x7FF:
		return 2
	case r <= 0xFFFF:
		return 3
	}
	return 4
}

// Encode tells the bytes of all of l, one behind the other.
func Encode(l []rune) []byte {
	var b []byte
	for _, r := range l {
		b = appendBytes(b, scalar(r))
	}
	return b
}

// Next tells the scalar with which b begins, and how many bytes it has; or whether more bytes are wanted to tell.
func Next(b []byte) (rune, int, bool) {
	if len(b) == 0 {
		return 0, 0, true
	}
	n, least, most := lead(b[0])
	switch n {
	case 0:
		return replacement, 1, false
	case 1:
		return rune(b[0]), 1, false
	}
	r := rune(b[0] & (0x7F >> n))
	for i := 1; i < n; i++ {
		if i == len(b) {
			return 0, 0, true
		}
		if b[i] < least || b[i] > most {
			return replacement, 1, false
		}
		r = r<<6 | rune(b[i]&0x3F)
		least, most = 0x80, 0xBF // only a second byte's range may be narrower
	}
	return r, n, false
}

// Decode tells the runes of all of b: what a feeder tells that is fed all of it, and flushed.
func Decode(b []byte) []rune {
	var f Feeder
	l := f.Feed(b...)
	return append(l, f.Flush()...)
}

// scalar tells the scalar as which r counts.
func scalar(r rune) rune {
	if Valid(r) {
		return r
	}
	return replacement
}

// appendBytes puts the bytes of a scalar behind b.
func appendBytes(b []byte, r rune) []byte {
	switch Len(r) {
	case 1:
		return append(b, byte(r))
	case 2:
		return append(b, 0xC0|byte(r>>6), lowerSix(r))
	case 3:
		return append(b, 0xE0|byte(r>>12), lowerSix(r>>6), lowerSix(r))
	}
	return append(b, 0xF0|byte(r>>18), lowerSix(r>>12), lowerSix(r>>6), lowerSix(r))
}

// lowerSix tells the byte that carries the lower six bits of r.
func lowerSix(r rune) byte {
	return 0x80 | byte(r)&0x3F
}

// lead tells how many bytes the scalars have that begin with c (0: none does), and the least and the most that their second byte may be.
func lead(c byte) (n int, least, most byte) {
	switch {
	case c <= 0x7F:
		return 1, 0, 0
	case c < 0xC2: // C0 and C1 would lead runes that have one byte
		return 0, 0, 0
	case c <= 0xDF:
		return 2, 0x80, 0xBF
	case c == 0xE0: // below A0 come runes that have fewer bytes
		return 3, 0xA0, 0xBF
	case c == 0xED: // from A0 on come surrogates
		return 3, 0x80, 0x9F
	case c <= 0xEF:
		return 3, 0x80, 0xBF
	case c == 0xF0: // below 90 come runes that have fewer bytes
		return 4, 0x90, 0xBF
	case c < 0xF4:
		return 4, 0x80, 0xBF
	case c == 0xF4: // from 90 on comes what is above the last scalar
		return 4, 0x80, 0x8F
	}
	return 0, 0, 0
}

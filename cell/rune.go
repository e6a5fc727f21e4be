package cell

import "inkhorn/utf"

const (
	blank       = 0x20
	caret       = 0x5E
	controlLast = 0x1F
	deletion    = 0x7F // the control above the others
	upperFirst  = 0x80 // from here to upperLast are controls of a terminal, which have no name by a caret
	upperLast   = 0x9F
	turned      = 0x40   // the bit in which a control and the rune that names it differ
	replacement = 0xFFFD // is shown of what cannot be
)

// ranges are those of the runes that are zero wide, or wide, from the lowest on.
var ranges = [...]struct {
	first, last rune
	width       int
}{
	{0x300, 0x36F, 0},
	{0x1100, 0x115F, 2},
	{0x200B, 0x200F, 0},
	{0x20D0, 0x20FF, 0},
	{0x2E80, 0x303E, 2},
	{0x3041, 0x4DBF, 2},
	{0x4E00, 0xA4CF, 2},
	{0xAC00, 0xD7A3, 2},
	{0xF900, 0xFAFF, 2},
	{0xFE00, 0xFE0F, 0},
	{0xFE30, 0xFE6F, 2},
	{0xFF00, 0xFF60, 2},
	{0xFFE0, 0xFFE6, 2},
	{0x1F300, 0x1F64F, 2},
	{0x1F900, 0x1F9FF, 2},
	{0x20000, 0x3FFFD, 2},
}

// Width tells how many columns a rune has.
func Width(r rune) int {
	if control(r) {
		return 2
	}
	for i := range ranges {
		switch {
		case r < ranges[i].first: // so it is below all that follow
			return 1
		case r <= ranges[i].last:
			return ranges[i].width
		}
	}
	return 1
}

// Show tells what is shown of a rune.
func Show(r rune) []rune {
	switch {
	case control(r):
		return []rune{caret, r ^ turned}
	case upperFirst <= r && r <= upperLast || !utf.Valid(r):
		return []rune{replacement}
	}
	return []rune{r}
}

// control tells whether a rune is a control.
func control(r rune) bool {
	return 0 <= r && r <= controlLast || r == deletion
}

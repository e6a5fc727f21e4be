package regpat_test

import (
	"strings"
	"testing"

	"inkhorn/api"
	"inkhorn/regpat"
)

// sizeOf tells a part's size, by the chapter's words.
func sizeOf(re api.Re) int {
	n := 0
	for _, x := range re.Parts {
		n += sizeOf(x)
	}
	if re.Kind == api.ReStar {
		return 1 + n*max(1, re.Lo, re.Hi)
	}
	return 1 + n
}

// wantSize fails, if a pattern has another size, or if it may not have it.
func wantSize(t *testing.T, p string, size int) {
	t.Helper()
	re, e := regpat.Parse([]rune(p))
	if e != api.OK || sizeOf(re) != size {
		t.Errorf("Parse(%.40q) has size %d (%d), not %d", p, sizeOf(re), e, size)
	}
}

// 7.1: sizes, and how deep groups are

func TestTheGreatestSizeByParts(t *testing.T) {
	for _, w := range []struct {
		sign  string
		each  int
		ahead string
		size  int
	}{
		{`a`, 1, ``, 1}, {`.`, 1, ``, 1}, {`[a-z0-9]`, 1, ``, 1}, {`[^]]`, 1, ``, 1}, {`\<`, 1, ``, 1}, {`\>`, 1, ``, 1}, {`\.`, 1, ``, 1}, {`$`, 1, ``, 1}, {`a`, 1, `^`, 2},
		{`a*`, 2, `b`, 2}, {`\(\)`, 2, `b`, 2}, {`\(a\)`, 2, `b`, 2}, {`a\{0\}`, 2, `b`, 2}, {`a\{1\}`, 2, `b`, 2}, {`a\{0,\}`, 2, `b`, 2}, {`a\{2\}`, 3, ``, 1}, {`a\{2,\}`, 3, ``, 1}, {`a\{0,2\}`, 3, ``, 1}, {`\(a*\)`, 3, ``, 1}, {`\(\|\)`, 4, `bbb`, 4}, {`\(ab\)`, 4, `bbb`, 4}, {`a\{6\}`, 7, ``, 1},
		{`\|a`, 1, ``, 2}, {`\|`, 1, ``, 2}, {`\|a*`, 2, ``, 2},
	} {
		n := (api.MaxNodes - w.size) / w.each
		rest := api.MaxNodes - w.size - n*w.each
		if strings.HasPrefix(w.sign, `\|`) {
			rest = 0
		}
		p := w.ahead + strings.Repeat(w.sign, n) + strings.Repeat(`x`, rest)
		wantSize(t, p, w.size+n*w.each+rest)
		wantError(t, p+w.sign, api.ErrDeep)
	}
	wantSize(t, strings.Repeat(`a`, 399), 400)
	wantError(t, strings.Repeat(`a`, 400), api.ErrDeep)
	wantSize(t, strings.Repeat(`\|`, 398), 400)
	wantError(t, strings.Repeat(`\|`, 399), api.ErrDeep)
	wantSize(t, `\|`+strings.Repeat(`a`, 397), 400)
	wantError(t, `\|`+strings.Repeat(`a`, 398), api.ErrDeep)
	wantSize(t, `a`+strings.Repeat(`*`, 399), 400)
	wantError(t, `a`+strings.Repeat(`*`, 400), api.ErrDeep)
	wantSize(t, `\(`+strings.Repeat(`a`, 398)+`\)`, 400)
	wantError(t, `\(`+strings.Repeat(`a`, 399)+`\)`, api.ErrDeep)
	wantSize(t, `\(`+strings.Repeat(`a`, 397)+`\)*`, 400)
	wantError(t, `\(`+strings.Repeat(`a`, 398)+`\)*`, api.ErrDeep)
	wantSize(t, `\(`+strings.Repeat(`a`, 397)+`\)\{0\}`, 400)
	wantError(t, `\(`+strings.Repeat(`a`, 398)+`\)\{0\}`, api.ErrDeep)
}

func TestTheGreatestSizeByCounts(t *testing.T) {
	for _, w := range []struct {
		p    string
		size int
	}{
		{`a\{100\}`, 101}, {`a\{100,\}`, 101}, {`a\{0,100\}`, 101}, {`a\{100,100\}`, 101}, {`a\{3,7\}`, 8}, {`a\{7,\}`, 8}, {`\(a\)\{100\}`, 201}, {`a*\{100\}`, 201}, {`\(ab\)\{99\}`, 397},
		{`\(abcde\)\{57\}`, 400}, {`\(abcde\)\{57,\}`, 400}, {`\(abcde\)\{0,57\}`, 400}, {`\(abcde\)\{56\}`, 393},
		{`\(\(abcde\)\{57\}\)`, 401}, {`\(abcde\)\{58\}`, 407}, {`\(abcde\)\{58,\}`, 407}, {`\(abcde\)\{0,58\}`, 407}, {`\(abcde\)\{57\}*`, 401}, {`\(abcde\)\{57\}\{0\}`, 401}, {`\(abcde\)\{57\}a`, 402},
		{`\(ab\)\{99\}\(\)`, 400}, {`\(ab\)\{99\}aa`, 400}, {`\(ab\)\{100\}`, 401}, {`\(ab\)\{2,100\}`, 401}, {`\(ab\)\{100,\}`, 401},
		{`a\{3\}\{99\}`, 397}, {`a\{3\}\{100\}`, 401}, {`a\{99\}\{3\}`, 301}, {`a\{100\}\{100\}`, 10101},
		{`a\{0\}\{100\}`, 201}, {`\(a\{100\}\)\{4\}`, 409}, {`a\{100\}b\{100\}c\{97\}`, 301}, {`a\{100\}b\{100\}c\{100\}d\{95\}`, 400}, {`a\{100\}b\{100\}c\{100\}d\{96\}`, 401},
	} {
		if w.size > api.MaxNodes {
			wantError(t, w.p, api.ErrDeep)
		} else {
			wantSize(t, w.p, w.size)
		}
	}
}

func TestSizesThatLeaveAnInt(t *testing.T) {
	for n := 1; n < 40; n++ {
		p := `a` + strings.Repeat(`\{64\}`, n) // of 64 bits the lower ones are those of the ones: 1
		if n > 1 {
			wantError(t, p, api.ErrDeep)
			wantError(t, `\(`+p+`\)`+strings.Repeat(`\{4\}`, n), api.ErrDeep)
		}
		wantError(t, `ab`+strings.Repeat(`\{100\}`, n+1), api.ErrDeep)
		wantError(t, strings.Repeat(`a\{100\}\{100\}`, n)+`\|b`, api.ErrDeep)
	}
}

func TestGroupsWithinGroups(t *testing.T) {
	for n := range 40 {
		open, closed := strings.Repeat(`\(`, n), strings.Repeat(`\)`, n)
		if n > api.MaxNest {
			wantError(t, open+`a`+closed, api.ErrDeep)
			wantError(t, open, api.ErrDeep)
			wantError(t, `a\|\(\)`+open+closed, api.ErrDeep)
			continue
		}
		wantSize(t, open+`a`+closed, n+1)
		wantSize(t, open+`a`+closed+open+`b`+closed, 2*n+3)
		if n > 0 {
			wantError(t, open, api.ErrBracket)
			wantError(t, open+`a`+closed[2:], api.ErrBracket)
			wantError(t, open+closed+`\)`, api.ErrBracket)
		}
	}
	fifteen, ended := strings.Repeat(`\(`, 15), strings.Repeat(`\)`, 15)
	wantSize(t, fifteen+strings.Repeat(`\(\)`, 100)+ended, 216) // sixteen are open, a hundred times
	wantError(t, fifteen+`\(\)\(\(\)\)`+ended, api.ErrDeep)
	wantError(t, fifteen+`\(\)\(\(`, api.ErrDeep)
}

func TestLongPatternsEnd(t *testing.T) {
	const many = 300000
	for _, w := range []struct {
		p string
		e api.Errno
	}{
		{strings.Repeat(`a`, many), api.ErrDeep}, {`a` + strings.Repeat(`*`, many), api.ErrDeep}, {strings.Repeat(`a*`, many), api.ErrDeep}, {strings.Repeat(`\|`, many), api.ErrDeep}, {strings.Repeat(`\(\)`, many), api.ErrDeep},
		{`a` + strings.Repeat(`\{100\}`, many), api.ErrDeep}, {strings.Repeat(`[a]`, many), api.ErrDeep}, {strings.Repeat(`$`, many), api.ErrDeep},
		{strings.Repeat(`\(`, many), api.ErrDeep}, {strings.Repeat(`\)`, many), api.ErrBracket}, {strings.Repeat(`[`, many), api.ErrBracket}, {strings.Repeat(`[a]`, many) + `[`, api.ErrBracket}, {strings.Repeat(`a\{2\}`, many) + `\{2`, api.ErrBracket},
		{strings.Repeat(`\\`, many) + `\`, api.ErrForm}, {`a\{` + strings.Repeat(`9`, many) + `\}`, api.ErrRepeat}, {`a\{` + strings.Repeat(`0`, many) + `\}`, api.OK}, {`a\{` + strings.Repeat(`0`, many), api.ErrBracket},
		{`[` + strings.Repeat(`ab-c`, many) + `]`, api.OK}, {`[` + strings.Repeat(`ab-c`, many) + `b-a]`, api.ErrForm}, {`[` + strings.Repeat(`b-a`, many), api.ErrBracket},
	} {
		if re, e := regpat.Parse([]rune(w.p)); e != w.e || e != api.OK && !equal(re, api.Re{}) {
			t.Errorf("Parse(%.20q ..) is %d, not %d", w.p, e, w.e)
		}
		regpat.Groups([]rune(w.p))
		regpat.Quote([]rune(w.p))
	}
}

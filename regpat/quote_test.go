package regpat_test

import (
	"math"
	"slices"
	"strings"
	"testing"

	"inkhorn/api"
	"inkhorn/regpat"
)

// wantGroups fails, if a pattern has another number of groups.
func wantGroups(t *testing.T, p string, n int) {
	t.Helper()
	if got := regpat.Groups([]rune(p)); got != n {
		t.Errorf("Groups(%q) is %d, not %d", p, got, n)
	}
}

// wantQuote fails, if other runes are told of some.
func wantQuote(t *testing.T, l, want string) {
	t.Helper()
	if got := string(regpat.Quote([]rune(l))); got != want {
		t.Errorf("Quote(%q) is %q, not %q", l, got, want)
	}
}

// wantThese fails, if the quoted runes are not a pattern of just these runes.
func wantThese(t *testing.T, l []rune) {
	t.Helper()
	var parts []api.Re
	for _, c := range l {
		parts = append(parts, api.Re{Kind: api.ReRune, R: c})
	}
	want := api.Re{Kind: api.ReCat, Parts: parts}
	switch len(l) {
	case 0:
		want = api.Re{}
	case 1:
		want = parts[0]
	}
	q := regpat.Quote(l)
	if re, e := regpat.Parse(q); e != api.OK || !equal(re, want) {
		t.Errorf("Parse(Quote(%q)) is %s (%d)", string(l), told(re), e)
	}
	if n := regpat.Groups(q); n != 0 {
		t.Errorf("Groups(Quote(%q)) is %d", string(l), n)
	}
}

// 7.2

func TestQuote(t *testing.T) {
	wantQuote(t, ``, ``)
	wantQuote(t, `abc`, `abc`)
	wantQuote(t, `a.b`, `a\.b`)
	wantQuote(t, `\`, `\\`)
	wantQuote(t, `\.[*^$`, `\\\.\[\*\^\$`)
	wantQuote(t, `a..b`, `a\.\.b`)
	wantQuote(t, `a^b$c`, `a\^b\$c`)
	wantQuote(t, `]{}()|<>-+?/&~ 1,`, `]{}()|<>-+?/&~ 1,`)
	wantQuote(t, `\(a\)`, `\\(a\\)`)
	wantQuote(t, `\\`, `\\\\`)
	wantQuote(t, "\t\n\x00\u4E2D\U0010FFFF", "\t\n\x00\u4E2D\U0010FFFF")
}

func TestQuoteOfEachRune(t *testing.T) {
	for c := rune(-2); c < 0x400; c++ {
		want := []rune{c}
		if c >= 0 && strings.ContainsRune(`\.[*^$`, c) {
			want = []rune{'\\', c}
		}
		if got := regpat.Quote([]rune{c}); !slices.Equal(got, want) {
			t.Errorf("Quote(%d) is %d", c, got)
		}
	}
}

func TestQuoteIsNew(t *testing.T) {
	for _, s := range []string{`abcdef`, `a.b`, `a`} {
		l := []rune(s + `!!`)
		q := regpat.Quote(l[:len(s)])
		for i := range q {
			q[i] = '?'
		}
		_ = append(q, '?', '?')
		if string(l) != s+`!!` {
			t.Fatalf("what was handed in is now %q", string(l))
		}
		q = regpat.Quote(l[:len(s)])
		want := string(q)
		for i := range l {
			l[i] = '?'
		}
		if string(q) != want {
			t.Fatalf("the answer is now %q", string(q))
		}
	}
}

func TestNumberOfGroups(t *testing.T) {
	wantGroups(t, ``, 0)
	wantGroups(t, `abc*`, 0)
	wantGroups(t, `\(\)`, 1)
	wantGroups(t, `\(a\)`, 1)
	wantGroups(t, `\(a\)\(b\)`, 2)
	wantGroups(t, `\(a\(b\(c\)\)\)\(d\)`, 4)
	wantGroups(t, `\(a\)\{3\}`, 1) // however often it is gone through
	wantGroups(t, `\(a\)*\|\(b\)`, 2)
	wantGroups(t, `\\(a\\)[\(]`, 0)
	wantGroups(t, `(a)`, 0)
	wantGroups(t, strings.Repeat(`\(\)`, 199), 199)
}

func TestNumberOfGroupsOfNoPattern(t *testing.T) {
	for _, p := range []string{`\(a`, `\(a\)\)`, `\(a\)\`, `\(a\)\(`, `\(a\)[`, `\(a\)[b-a]`, `\(a\)\{101\}`, `\(a\)\}`, strings.Repeat(`\(\)`, 200), strings.Repeat(`\(`, 17) + strings.Repeat(`\)`, 17)} {
		wantGroups(t, p, 0)
	}
}

// 7.3

func TestQuotedRunesAreAPatternOfThem(t *testing.T) {
	eachText(strings.Split(`\ . [ ] * ^ $ ( ) { } | < > - a`, " "), 4, func(s string) {
		wantThese(t, []rune(s))
	})
	for c := rune(-300); c < 0x3000; c++ {
		wantThese(t, []rune{c})
		wantThese(t, []rune{c, c})
		wantThese(t, []rune{'a', c, 'a'})
	}
	wantThese(t, []rune{10, 0, -1, math.MinInt32, math.MaxInt32, 0xD800, 0x110000})
	wantThese(t, slices.Repeat([]rune{'*'}, api.MaxNodes-1))
	if _, e := regpat.Parse(regpat.Quote(slices.Repeat([]rune{'*'}, api.MaxNodes))); e != api.ErrDeep {
		t.Errorf("the pattern of more runes than a pattern may have is error %d", e)
	}
}

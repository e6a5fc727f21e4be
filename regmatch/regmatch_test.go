package regmatch_test

import (
	"math"
	"slices"
	"strconv"
	"strings"
	"testing"

	"inkhorn/api"
	"inkhorn/regmatch"
)

// told tells spans as a text: -1 for one that is none.
func told(l []api.Span) string {
	var s []string
	for _, x := range l {
		if x == (api.Span{From: -1, To: -1}) {
			s = append(s, "-1")
		} else {
			s = append(s, strconv.Itoa(x.From)+"-"+strconv.Itoa(x.To))
		}
	}
	return strings.Join(s, " ")
}

// toldAll tells matches as a text.
func toldAll(l [][]api.Span) string {
	var s []string
	for _, m := range l {
		s = append(s, told(m))
	}
	return strings.Join(s, ", ")
}

// compiled tells what finds a pattern, which has to be one.
func compiled(t *testing.T, p string) *regmatch.Prog {
	t.Helper()
	x, e := regmatch.Compile([]rune(p))
	if e != api.OK || x == nil {
		t.Fatalf("Compile(%q) is error %d", p, e)
	}
	return x
}

// wantMatchFrom fails, if from a place on a pattern has another match in a line; "no" is none.
func wantMatchFrom(t *testing.T, p, line string, from int, want string) {
	t.Helper()
	m, ok := compiled(t, p).Match([]rune(line), from)
	got := told(m)
	switch {
	case !ok && len(m) > 0:
		t.Errorf("no match of %q in %q has the spans %s", p, line, got)
	case !ok:
		got = "no"
	}
	if got != want {
		t.Errorf("the match of %q in %q from %d is %s, not %s", p, line, from, got, want)
	}
}

// match is a pattern, a line, and the match's spans.
type match struct{ p, line, want string }

// wantMatches fails, if patterns have other matches from a line's beginning on.
func wantMatches(t *testing.T, l []match) {
	t.Helper()
	for _, w := range l {
		wantMatchFrom(t, w.p, w.line, 0, w.want)
	}
}

// 8.1: word runes

func TestWord(t *testing.T) {
	const words = "0123456789ABCDEFGHIJKLMNOPQRSTUVWXYZ_abcdefghijklmnopqrstuvwxyz"
	for r := rune(-300); r < 0x1000; r++ {
		want := r >= 0x80 || r >= 0 && strings.ContainsRune(words, r)
		if regmatch.Word(r) != want {
			t.Errorf("Word(%#x) is %t", r, !want)
		}
	}
	for _, r := range []rune{0xD800, 0xFFFD, 0x10FFFF, 0x110000, math.MaxInt32} {
		if !regmatch.Word(r) {
			t.Errorf("%#x is no word rune", r)
		}
	}
	if regmatch.Word(math.MinInt32) {
		t.Error("the least rune is a word rune")
	}
}

// 8.1: each kind of part

func TestMatchOfTheExamples(t *testing.T) {
	wantMatches(t, []match{
		{`a*b`, `xaab`, `1-4`},
		{`\(a\|ab\)\(c\|bcd\)`, `abcd`, `0-4 0-1 1-4`},
		{`\<b`, `ab b`, `3-4`},
	})
}

func TestMatchOfRunes(t *testing.T) {
	wantMatches(t, []match{
		{`a`, `a`, `0-1`}, {`a`, `ba`, `1-2`}, {`a`, `bab`, `1-2`}, {`a`, `b`, `no`}, {`a`, ``, `no`}, {`a`, `A`, `no`},
		{`abc`, `ababc`, `2-5`}, {`abc`, `abab`, `no`}, {`aab`, `aaab`, `1-4`}, {`abab`, `abaabab`, `3-7`},
		{`\.`, `a.`, `1-2`}, {`\*`, `a*`, `1-2`}, {`*`, `a*`, `1-2`}, {`a^`, `aa^`, `1-3`}, {`$a`, `a$a`, `1-3`},
		{"\u00e9", "e\u00e9", `1-2`}, {"\U0010FFFF", "a\U0010FFFF", `1-2`}, {"e\u0301", "ee\u0301", `1-3`},
		{"\t", "a\t", `1-2`}, {"\x00", "a\x00", `1-2`}, {"\n", "a\nb", `1-2`},
	})
}

func TestMatchOfAnyRune(t *testing.T) {
	wantMatches(t, []match{
		{`.`, `a`, `0-1`}, {`.`, `ab`, `0-1`}, {`.`, ``, `no`}, {`..`, `a`, `no`}, {`.b`, `bab`, `1-3`},
		{`.`, "\x00", `0-1`}, {`.`, "\n", `0-1`}, {`.`, "\U0010FFFF", `0-1`}, {`a.*`, `bacd`, `1-4`}, {`.*`, `abc`, `0-3`}, {`.*`, ``, `0-0`},
	})
}

func TestMatchOfASet(t *testing.T) {
	wantMatches(t, []match{
		{`[b]`, `abc`, `1-2`}, {`[bc]`, `acb`, `1-2`}, {`[b-d]`, `aed`, `2-3`}, {`[b-d]`, `aeb`, `2-3`}, {`[b-d]`, `ace`, `1-2`}, {`[b-d]`, `ae`, `no`}, {`[b]`, ``, `no`},
		{`[^b]`, `bab`, `1-2`}, {`[^b-d]`, `bcde`, `3-4`}, {`[^b-d]`, `dcba`, `3-4`}, {`[^b-d]`, `bcd`, `no`}, {`[^b]`, ``, `no`}, {`[^b]`, "b\n", `1-2`},
		{`[^bd]`, `bdc`, `2-3`}, {`[^]a-c]`, `]acb]d`, `5-6`}, {`[]a]`, `b]`, `1-2`}, {`[a-]`, `b-`, `1-2`}, {`[a\]`, `b\`, `1-2`}, {`[a^]`, `b^`, `1-2`}, {`[.]`, `a.`, `1-2`},
		{`[0-9a-fx]`, `zxz`, `1-2`}, {`[0-9a-fx]`, `zz9`, `2-3`}, {`[0-9a-fx]`, `gf`, `1-2`}, {`[a-a]`, `ba`, `1-2`},
		{"[\u0430-\u044f]", "a\u044f", `1-2`}, {"[^\u0430-\u044f]", "\u0430\u0450", `1-2`},
	})
}

func TestMatchOfRunesBelowZero(t *testing.T) {
	line := []rune{-1, 'a', -5, math.MinInt32, math.MaxInt32}
	for _, w := range []struct {
		p    []rune
		want string
	}{
		{[]rune{-5}, `2-3`}, {[]rune{-1}, `0-1`}, {[]rune{math.MinInt32}, `3-4`}, {[]rune{math.MaxInt32}, `4-5`}, {[]rune{-2}, `no`},
		{[]rune{'.'}, `0-1`}, {[]rune{'.', '*'}, `0-5`}, {[]rune(`[^a]`), `0-1`}, {[]rune(`a[^a]*`), `1-5`},
		{[]rune{'[', -5, ']'}, `2-3`}, {[]rune{'[', -9, '-', -2, ']'}, `2-3`}, {[]rune{'[', '^', -5, '-', -1, ']'}, `1-2`}, {[]rune{'[', math.MinInt32, '-', math.MaxInt32, ']', '*'}, `0-5`},
		{[]rune(`\<`), `1-1`}, {[]rune(`\>`), `2-2`}, {[]rune(`\>.*`), `2-5`}, {[]rune(`\<.\>`), `1-2`}, {[]rune{'\\', '<', math.MaxInt32, '\\', '>'}, `4-5`},
	} {
		x, e := regmatch.Compile(w.p)
		if e != api.OK {
			t.Fatalf("Compile(%d) is error %d", w.p, e)
		}
		m, ok := x.Match(line, 0)
		got := told(m)
		if !ok {
			got = "no"
		}
		if got != w.want {
			t.Errorf("the match of %d is %s, not %s", w.p, got, w.want)
		}
	}
}

func TestMatchOfNothing(t *testing.T) {
	wantMatches(t, []match{
		{``, ``, `0-0`}, {``, `ab`, `0-0`}, {`\|`, `ab`, `0-0`}, {`\(\)`, `ab`, `0-0 0-0`}, {`a\|`, `ab`, `0-1`}, {`\|a`, `ab`, `0-1`}, {`\|a`, `ba`, `0-0`}, {`b\|`, `ab`, `0-0`}, {`\(\)a`, `ba`, `1-2 1-1`},
	})
	for from := range 4 {
		at := strconv.Itoa(from)
		wantMatchFrom(t, ``, `abc`, from, at+"-"+at)
	}
}

func TestMatchOfALinesEnds(t *testing.T) {
	wantMatches(t, []match{
		{`^`, ``, `0-0`}, {`$`, ``, `0-0`}, {`^$`, ``, `0-0`}, {`^`, `ab`, `0-0`}, {`$`, `ab`, `2-2`}, {`^$`, `ab`, `no`},
		{`^a`, `aab`, `0-1`}, {`^b`, `ab`, `no`}, {`b$`, `bab`, `2-3`}, {`a$`, `ab`, `no`}, {`^ab$`, `ab`, `0-2`}, {`^a$`, `aa`, `no`}, {`^.*$`, `abc`, `0-3`},
		{`\(^\)a`, `aa`, `0-1 0-0`}, {`b\(^\)a`, `ba`, `no`}, {`a\($\)`, `aa`, `1-2 2-2`}, {`\($\)a`, `aa`, `no`}, {`\(^\|b\)a`, `aba`, `0-1 0-0`}, {`\(^\|b\)a`, `caba`, `2-4 2-3`},
		{`^\|b`, `ab`, `0-0`}, {`b\|$`, `ac`, `2-2`}, {`x\|^a`, `ba`, `no`}, {`\(^\)*a`, `ba`, `1-2 -1`}, {`\(^\)\{1,\}a`, `aa`, `0-1 0-0`}, {`\(^\)\{1,\}a`, `ba`, `no`},
		{`^a`, "b\na", `no`}, {`b$`, "b\na", `no`},
	})
	wantMatchFrom(t, `^`, `ab`, 1, `no`)
	wantMatchFrom(t, `^a`, `aa`, 1, `no`)
	wantMatchFrom(t, `^`, `ab`, 2, `no`)
	wantMatchFrom(t, `$`, `ab`, 1, `2-2`)
	wantMatchFrom(t, `$`, `ab`, 2, `2-2`)
	wantMatchFrom(t, `^$`, ``, 0, `0-0`)
}

func TestMatchOfAWordsEnds(t *testing.T) {
	wantMatches(t, []match{
		{`\<`, `ab`, `0-0`}, {`\<`, ` ab`, `1-1`}, {`\<`, ``, `no`}, {`\<`, `  `, `no`}, {`\<b`, `ab`, `no`}, {`\<b`, `ab-b`, `3-4`}, {`\<a`, `a`, `0-1`}, {`\< `, ` a `, `no`}, {`a\<`, `a a`, `no`}, {`-\<a`, `a-a`, `1-3`},
		{`\>`, `ab`, `2-2`}, {`\>`, `ab `, `2-2`}, {`\>`, ``, `no`}, {`\>`, `  `, `no`}, {`a\>`, `ab`, `no`}, {`a\>`, `ab-a`, `3-4`}, {`a\>`, `a`, `0-1`}, {` \>`, `a a`, `no`}, {`\>-`, `-a-`, `2-3`}, {`\>a`, `a a`, `no`},
		{`\<ab\>`, `abc ab`, `4-6`}, {`\<.\>`, `ab c`, `3-4`}, {`\<\>`, `a b`, `no`}, {`\>\<`, `a b`, `no`}, {`\<\<a\>\>`, ` a `, `1-2`}, {`\(\<\|-\)a`, `ba-a`, `2-4 2-3`},
		{`\<`, "\x7f\u0080", `1-1`}, {`\>`, "\u0080\x7f", `1-1`}, {`\<`, "a\u0080", `0-0`}, {`\<\u00e9`, "a\u00e9", `no`}, {"\\<\u00e9", "a \u00e9", `2-3`}, {"\u00e9\\>", "\u00e9a \u00e9", `3-4`}, {`\>`, "\x7f", `no`}, {`\>`, "\u0080", `1-1`}, {`\<`, "\U0010FFFF", `0-0`},
		{`\<_`, `-_`, `1-2`}, {`\<_`, `a_`, `no`}, {`\<0`, `a0 0`, `3-4`}, {`\<Z`, `@Z`, `1-2`}, {`z\>`, `z{`, `0-1`}, {"\\<a", "`a", `1-2`}, {`9\>`, `9:`, `0-1`}, {`\<0`, `/0`, `1-2`}, {`\<A`, `[A`, `1-2`}, {`\<a`, `^a`, `1-2`},
	})
	wantMatchFrom(t, `\<`, `ab`, 1, `no`) // what is ahead of the place counts too
	wantMatchFrom(t, `\<`, `ab c`, 1, `3-3`)
	wantMatchFrom(t, `\>`, `ab`, 1, `2-2`)
	wantMatchFrom(t, `\>`, `ab `, 2, `2-2`)
	wantMatchFrom(t, `\>`, `ab`, 2, `2-2`)
	wantMatchFrom(t, `\<`, `ab`, 2, `no`)
}

func TestMatchOfRepetitions(t *testing.T) {
	wantMatches(t, []match{
		{`a*`, ``, `0-0`}, {`a*`, `b`, `0-0`}, {`a*`, `aab`, `0-2`}, {`ba*`, `aba`, `1-3`}, {`a*a`, `aaa`, `0-3`}, {`a*ab`, `aab`, `0-3`}, {`a*a`, `b`, `no`},
		{`a\{2\}`, `a`, `no`}, {`a\{2\}`, `aaa`, `0-2`}, {`ba\{2\}`, `baba`, `no`}, {`a\{0\}`, `aa`, `0-0`}, {`a\{0\}b`, `ab`, `1-2`}, {`a\{1\}`, `ba`, `1-2`},
		{`a\{1,\}`, `b`, `no`}, {`a\{1,\}`, `baaa`, `1-4`}, {`a\{2,\}`, `aba`, `no`}, {`a\{2,\}`, `abaaa`, `2-5`}, {`a\{0,\}`, `aa`, `0-2`}, {`a\{3,\}b`, `aab`, `no`}, {`a\{3,\}b`, `aaaab`, `0-5`},
		{`a\{1,2\}`, `aaa`, `0-2`}, {`a\{1,2\}`, `ab`, `0-1`}, {`a\{1,2\}`, `b`, `no`}, {`ba\{1,2\}b`, `baaab`, `no`}, {`a\{0,1\}`, `aa`, `0-1`}, {`a\{0,1\}b`, `aab`, `1-3`}, {`a\{0,0\}`, `a`, `0-0`}, {`a\{2,2\}`, `aaa`, `0-2`}, {`a\{2,4\}b`, `aaaaab`, `1-6`},
		{`[ab]\{2\}`, `cabc`, `1-3`}, {`.\{3\}`, `abcd`, `0-3`}, {`\(ab\)\{2\}`, `aababb`, `1-5 3-5`}, {`\(ab\)*`, `ababa`, `0-4 2-4`},
		{`a\{2\}*`, `aaa`, `0-2`}, {`a\{2\}\{2\}`, `aaaaa`, `0-4`}, {`a*\{2\}`, `aaa`, `0-3`}, {`a**`, `aab`, `0-2`}, {`a\{2,3\}\{2\}$`, `aaaaaaa`, `1-7`}, {`a\{2\}\{1,\}b`, `aaaaab`, `1-6`}, {`a\{0,1\}\{3\}`, `aaaa`, `0-3`},
		{`\<*b`, `ab`, `1-2`}, {`\<\{1,\}b`, `ab`, `no`}, {`\<\{1,\}b`, `-b`, `1-2`}, {`\>\{2\}`, `a `, `1-1`}, {`a\>*b`, `ab`, `0-2`},
		{`a\{100\}`, strings.Repeat(`a`, 99), `no`}, {`a\{100\}`, strings.Repeat(`a`, 101), `0-100`}, {`a\{99,100\}`, strings.Repeat(`a`, 101), `0-100`}, {`a\{100,\}`, strings.Repeat(`a`, 123), `0-123`}, {`a\{0,100\}`, strings.Repeat(`a`, 123), `0-100`},
	})
}

// 8.1: the match

func TestMatchIsTheLeftmost(t *testing.T) {
	wantMatches(t, []match{
		{`b\|a`, `ab`, `0-1`}, {`bc\|abcd\|b`, `xabcd`, `1-5`}, {`a*`, `baaa`, `0-0`}, {`aaaa\|b`, `baaaa`, `0-1`}, {`bbb\|ab`, `abbb`, `0-2`}, {`cd\|abcx\|bc`, `abcd`, `1-3`},
		{`abcx\|c`, `abcd`, `2-3`}, {`abcx\|bcdx\|c`, `abcd`, `2-3`}, {`a.*x\|b`, `aab`, `2-3`}, {`a.*x\|b`, `aabx`, `0-4`}, {`\(c\)\|\(a.*d\)`, `abcd`, `0-4 -1 0-4`}, {`\(c\)\|\(a.*x\)`, `abcd`, `2-3 2-3 -1`},
	})
	wantMatchFrom(t, `a*b`, `aab aab`, 1, `1-3`)
	wantMatchFrom(t, `a*b`, `aab aab`, 3, `4-7`)
	wantMatchFrom(t, `ab\|b`, `ab`, 1, `1-2`)
}

func TestMatchIsTheLongest(t *testing.T) {
	wantMatches(t, []match{
		{`a\|ab`, `ab`, `0-2`}, {`ab\|a`, `ab`, `0-2`}, {`\|a\|aa\|aaa`, `aa`, `0-2`}, {`a\|ab\|abc`, `abd`, `0-2`}, {`\(a\|ab\)\(c\|bcd\)`, `abcd`, `0-4 0-1 1-4`}, {`\(a\|ab\)\(c\|bcd\)`, `abc`, `0-3 0-2 2-3`}, {`\(a\|ab\)\(bcd\|c\)`, `abcx`, `0-3 0-2 2-3`},
		{`\(a\|ab\)*`, `aba`, `0-3 2-3`}, {`\(a\|ab\|b\)*c\|ab`, `abab`, `0-2 -1`}, {`a*\(ab\)*`, `aab`, `0-3 1-3`}, {`a*\(ab\)*`, `aaa`, `0-3 -1`}, {`\(a*\)\(ab\)*\(b*\)`, `abb`, `0-3 0-1 -1 1-3`}, {`\(a\{0,1\}\)\(ab\)\{0,1\}`, `ab`, `0-2 0-0 0-2`},
		{`x*\|b`, `b`, `0-1`}, {`$\|a`, `a`, `0-1`}, {`^\|ab`, `ab`, `0-2`},
	})
}

func TestMatchIsTheOneAhead(t *testing.T) {
	wantMatches(t, []match{
		{`\(a\)\|\(a\)`, `a`, `0-1 0-1 -1`}, {`\(.\)\|\(a\)`, `a`, `0-1 0-1 -1`}, {`\(ab\)\|\(a\)\(b\)`, `ab`, `0-2 0-2 -1 -1`}, {`\(a\)\(b\)\|\(ab\)`, `ab`, `0-2 0-1 1-2 -1`},
		{`\(a*\)\(a*\)`, `aa`, `0-2 0-2 2-2`}, {`\(a\{0,1\}\)\(a*\)`, `aa`, `0-2 0-1 1-2`}, {`\(a\|aa\)\(a*\)`, `aaa`, `0-3 0-1 1-3`}, {`\(aa\|a\)\(a*\)`, `aaa`, `0-3 0-2 2-3`}, {`\(\|a\)\(a*\)`, `aa`, `0-2 0-0 0-2`}, {`\(a*\)\(a\|b\)`, `aab`, `0-3 0-2 2-3`}, {`\(a*\)\(ab\|b\)`, `aab`, `0-3 0-2 2-3`},
		{`\(a\|b\|ab\)*`, `ab`, `0-2 1-2`}, {`\(ab\|a\|b\)*`, `ab`, `0-2 0-2`}, {`\(a\|ab\|b\)\{1,2\}`, `ab`, `0-2 1-2`}, {`\(aa\|a\)\{1,2\}`, `aaa`, `0-3 2-3`}, {`\(a\|aa\)\{1,2\}`, `aaa`, `0-3 1-3`}, {`\(a\|aa\)\{1,2\}$`, `aa`, `0-2 1-2`},
		{`\(a*\)*`, `aa`, `0-2 0-2`}, {`\(a\)*\(a*\)`, `aa`, `0-2 1-2 2-2`}, {`\(a\{2\}\)*\(a*\)`, `aaaaa`, `0-5 2-4 4-5`}, {`\(a\{2\}\)*\(a*\)$`, `aaa`, `0-3 0-2 2-3`}, {`\(\(a\)\|\(b\)\)*`, `ab`, `0-2 1-2 0-1 1-2`},
		{`\(a\|b\)*\(b\)`, `abb`, `0-3 1-2 2-3`}, {`\(x\|\(y\)\)*y`, `xyy`, `0-3 1-2 1-2`},
	})
}

// 8.1: groups

func TestGroupsOfAMatch(t *testing.T) {
	wantMatches(t, []match{
		{`\(a\)`, `ba`, `1-2 1-2`}, {`b\(a\)c`, `bac`, `0-3 1-2`}, {`\(a\(b\(c\)d\)\)`, `xabcd`, `1-5 1-5 2-5 3-4`}, {`\(\(\(\)\)\)`, `a`, `0-0 0-0 0-0 0-0`}, {`\(a\)\(b\)\(c\)`, `abc`, `0-3 0-1 1-2 2-3`},
		{`\(a\)\|b`, `b`, `0-1 -1`}, {`\(a\)\|\(b\)\|\(c\)`, `b`, `0-1 -1 0-1 -1`}, {`\(a\)*b`, `b`, `0-1 -1`}, {`\(a\(b\)*\)*`, `aba`, `0-3 2-3 1-2`}, {`\(a\|\(b\)\)*`, `ba`, `0-2 1-2 0-1`}, {`\(a\)\{0\}b`, `ab`, `1-2 -1`}, {`\(a\)\{0,0\}`, ``, `0-0 -1`},
		{`\(a\)\{3\}`, `aaaa`, `0-3 2-3`}, {`\(.\)\{2,\}`, `abcd`, `0-4 3-4`}, {`\(.\)\{1,3\}`, `abcd`, `0-3 2-3`}, {`\(\(.\)\(.\)\)*`, `abcde`, `0-4 2-4 2-3 3-4`}, {`\(\(a\)\{2\}b\)\{2\}`, `aabaab`, `0-6 3-6 4-5`},
		{`\(\(a\)\|\(b\)\|\(c\)\)*`, `abc`, `0-3 2-3 0-1 1-2 2-3`}, {`\(\(a\)\|b\)\{2\}`, `ab`, `0-2 1-2 0-1`}, {`\(\(a\)*b\)*`, `aabb`, `0-4 3-4 1-2`},
		{`a\(\)b`, `ab`, `0-2 1-1`}, {`a\(^\)*b`, `ab`, `0-2 -1`}, {`\(\<\)a\(\>\)`, ` a`, `1-2 1-1 2-2`},
	})
	wantMatchFrom(t, `\(.\)\(.\)`, `abcd`, 1, `1-3 1-2 2-3`)
}

func TestRoundsThatMayBeEmpty(t *testing.T) {
	wantMatches(t, []match{
		{`\(a*\)*`, ``, `0-0 -1`}, {`\(a*\)*`, `b`, `0-0 -1`}, {`\(a*\)*b`, `aab`, `0-3 0-2`}, {`\(\)*`, `a`, `0-0 -1`}, {`\(\)\{0,5\}`, `a`, `0-0 -1`}, {`\(\<\)*`, `a`, `0-0 -1`},
		{`\(a*\)\{1,\}`, ``, `0-0 0-0`}, {`\(a*\)\{1,\}`, `b`, `0-0 0-0`}, {`\(a*\)\{1,\}`, `aab`, `0-2 0-2`}, {`\(\)\{1,\}`, `a`, `0-0 0-0`}, {`\(a*\)\{1,3\}`, `aa`, `0-2 0-2`},
		{`\(a*\)\{2\}`, `aa`, `0-2 2-2`}, {`\(a*\)\{2,\}`, `aa`, `0-2 2-2`}, {`\(a*\)\{3\}`, ``, `0-0 0-0`}, {`\(\|a\)\{2\}`, `aa`, `0-2 1-2`}, {`\(\|a\)\{2\}`, `a`, `0-1 0-1`}, {`\(\|a\)\{2,\}`, `aaa`, `0-3 2-3`}, {`\(a\|\)\{2\}`, `a`, `0-1 1-1`}, {`\(a\|\)\{1,2\}`, `a`, `0-1 0-1`}, {`\(\|a\)\{1,2\}`, `a`, `0-1 0-1`}, {`\(\|a\)\{0,2\}`, `aa`, `0-2 1-2`},
		{`\(a\{0,1\}\)\{100\}`, `aaa`, `0-3 3-3`}, {`\(a\{0,1\}\)\{0,100\}`, `aaa`, `0-3 2-3`}, {`\(a\{0,1\}\)\{3,3\}`, `aaaa`, `0-3 2-3`}, {`\(a\{0,1\}\)\{2,4\}`, `a`, `0-1 1-1`}, {`\(a\{0,1\}\)\{2,4\}`, `aaa`, `0-3 2-3`},
		{`\(\(a*\)*\)*`, `b`, `0-0 -1 -1`}, {`\(\(a*\)\{1,\}\)*`, `b`, `0-0 -1 -1`}, {`\(\(a*\)*\)\{1,\}`, `b`, `0-0 0-0 -1`}, {`\(\(a*\)\{1,\}\)\{1,\}`, `b`, `0-0 0-0 0-0`}, {`\(\(a*\)\{1,\}\)\{2\}`, `aa`, `0-2 2-2 2-2`}, {`\(\(a\)*\(b*\)\)*`, `aab`, `0-3 0-3 1-2 2-3`}, {`\(\(a\)*\)\{2\}`, `aa`, `0-2 2-2 1-2`},
		{`\(\(a*\)b*\)*`, `b`, `0-1 0-1 0-0`}, {`\(\(a*\)b*\)*`, `bab`, `0-3 1-3 1-2`}, {`\(\(\)\|b\)*`, `b`, `0-1 0-1 -1`}, {`\(\(\)\|b\)\{1,\}`, `b`, `0-1 0-1 0-0`}, {`\(\(\)*b\)*`, `b`, `0-1 0-1 -1`}, {`\(\(\)\{1,\}b*\)*`, `bb`, `0-2 0-2 0-0`}, {`\(\(\(\)\|a\)\{2\}\)*`, `a`, `0-1 0-1 0-1 0-0`},
		{`\(^\)*`, `a`, `0-0 -1`}, {`\(^\)\{1,\}`, `a`, `0-0 0-0`}, {`\(^\|a\)*`, `aa`, `0-2 1-2`}, {`\(^\|a\)\{1,\}`, `aa`, `0-2 1-2`}, {`\(^\|a\)\{2\}`, `a`, `0-1 0-1`}, {`\($\)\{2\}`, `a`, `1-1 1-1`}, {`\(a\|$\)\{2,\}`, `aa`, `0-2 1-2`}, {`\(a\|$\)\{3\}`, `aa`, `0-2 2-2`}, {`\(a\|$\)\{4\}`, `aa`, `0-2 2-2`},
		{`\*\{2\}*`, `**`, `0-2`}, {`\(\(a\|^\)\{2\}\)*`, `aaa`, `0-3 1-3 2-3`},
	})
}

func TestGroups(t *testing.T) {
	for _, w := range []struct {
		p string
		n int
	}{{``, 0}, {`a*`, 0}, {`\(\)`, 1}, {`\(a\)\|\(b\)`, 2}, {`\(a\(b\)\)`, 2}, {`\(a\)\{3\}`, 1}, {`\(a\)\{0\}`, 1}, {`\\(`, 0}, {strings.Repeat(`\(\)`, 199), 199}} {
		x := compiled(t, w.p)
		if n := x.Groups(); n != w.n {
			t.Errorf("%q has %d groups, not %d", w.p, n, w.n)
		}
		if m, ok := x.Match(nil, 0); ok && len(m) != w.n+1 {
			t.Errorf("the match of %q has %d spans", w.p, len(m))
		}
	}
}

// 8.1: wrong inputs

func TestMatchFromAPlace(t *testing.T) {
	for _, w := range []struct {
		from int
		want string
	}{{0, `0-1`}, {1, `2-3`}, {2, `2-3`}, {3, `3-3`}, {4, `no`}, {5, `no`}, {math.MaxInt, `no`}, {-1, `no`}, {-2, `no`}, {math.MinInt, `no`}} {
		wantMatchFrom(t, `a\|$`, `aba`, w.from, w.want)
	}
	for _, from := range []int{-1, 1, 2, math.MaxInt, math.MinInt} {
		wantMatchFrom(t, `.*`, ``, from, `no`)
	}
	wantMatchFrom(t, `a`, `aba`, 3, `no`)
	wantMatchFrom(t, `.*`, ``, 0, `0-0`)
}

func TestErrorsOfCompile(t *testing.T) {
	for _, w := range []struct {
		p string
		e api.Errno
	}{
		{`a\`, api.ErrForm}, {`[b-a]`, api.ErrForm}, {`[a`, api.ErrBracket}, {`\(a`, api.ErrBracket}, {`a\)`, api.ErrBracket}, {`a\}`, api.ErrBracket}, {`a\{2`, api.ErrBracket},
		{`\{2\}`, api.ErrRepeat}, {`^\{2\}`, api.ErrRepeat}, {`a\{\}`, api.ErrRepeat}, {`a\{3,2\}`, api.ErrRepeat}, {`a\{101\}`, api.ErrRepeat}, {`a\)\`, api.ErrBracket}, {`a\{101`, api.ErrRepeat},
		{strings.Repeat(`\(`, 17), api.ErrDeep}, {strings.Repeat(`a`, 400), api.ErrDeep}, {`a\{100\}\{4\}`, api.ErrDeep}, {strings.Repeat(`\(\)`, 200), api.ErrDeep}, {`a` + strings.Repeat(`\{1,\}`, 400), api.ErrDeep},
	} {
		if x, e := regmatch.Compile([]rune(w.p)); e != w.e || x != nil {
			t.Errorf("Compile(%q) is error %d, and a program: %t", w.p, e, x != nil)
		}
	}
}

func TestAProgramThatIsNone(t *testing.T) {
	var x *regmatch.Prog
	for _, line := range [][]rune{nil, []rune(`abc`)} {
		for from := -1; from < 3; from++ {
			if m, ok := x.Match(line, from); ok || len(m) > 0 {
				t.Errorf("it has a match: %s", told(m))
			}
		}
		if l := x.All(line); len(l) > 0 {
			t.Errorf("it has matches: %s", toldAll(l))
		}
	}
	if n := x.Groups(); n != 0 {
		t.Errorf("it has %d groups", n)
	}
}

// 8.2

// wantAll fails, if a pattern has other matches in a line.
func wantAll(t *testing.T, p, line, want string) {
	t.Helper()
	if got := toldAll(compiled(t, p).All([]rune(line))); got != want {
		t.Errorf("all matches of %q in %q are %s, not %s", p, line, got, want)
	}
}

func TestAll(t *testing.T) {
	for _, w := range []match{
		{`a*`, `baac`, `0-0, 1-3, 4-4`},
		{`a`, ``, ``}, {`a`, `bcd`, ``}, {`a`, `a`, `0-1`}, {`a`, `aaa`, `0-1, 1-2, 2-3`}, {`a`, `baba`, `1-2, 3-4`}, {`ab`, `abxabab`, `0-2, 3-5, 5-7`}, {`aa`, `aaaaa`, `0-2, 2-4`}, {`aba`, `ababa`, `0-3`}, {`.`, `ab`, `0-1, 1-2`}, {`..`, `abc`, `0-2`}, {`.*`, `abc`, `0-3`},
		{``, ``, `0-0`}, {``, `ab`, `0-0, 1-1, 2-2`}, {`a*`, ``, `0-0`}, {`a*`, `a`, `0-1`}, {`a*`, `aa`, `0-2`}, {`a*`, `b`, `0-0, 1-1`}, {`a*`, `ab`, `0-1, 2-2`}, {`a*`, `ba`, `0-0, 1-2`}, {`a*`, `bb`, `0-0, 1-1, 2-2`}, {`a*`, `abba`, `0-1, 2-2, 3-4`}, {`a*`, `abab`, `0-1, 2-3, 4-4`}, {`a*`, `aabaab`, `0-2, 3-5, 6-6`},
		{`^`, ``, `0-0`}, {`^`, `aa`, `0-0`}, {`^a`, `aaa`, `0-1`}, {`$`, ``, `0-0`}, {`$`, `aa`, `2-2`}, {`a$`, `aa`, `1-2`}, {`a\|$`, `ba`, `1-2`}, {`a\|$`, `ab`, `0-1, 2-2`}, {`^\|$`, ``, `0-0`}, {`^\|$`, `ab`, `0-0, 2-2`}, {`^\|a`, `aa`, `0-1, 1-2`}, {`^\|b`, `abb`, `0-0, 1-2, 2-3`},
		{`\<`, `ab cd`, `0-0, 3-3`}, {`\>`, `ab cd`, `2-2, 5-5`}, {`\<\|\>`, `ab cd`, `0-0, 2-2, 3-3, 5-5`}, {`\<.`, `ab cd`, `0-1, 3-4`}, {`\<a`, `aa a`, `0-1, 3-4`}, {`\>\|b`, `ab b`, `1-2, 3-4`}, {`a\|\>`, `ab a`, `0-1, 2-2, 3-4`}, {`a\|\<`, `a ba`, `0-1, 2-2, 3-4`},
		{`\(a\)\|\(b\)`, `ab`, `0-1 0-1 -1, 1-2 -1 1-2`}, {`\(a\)*b`, `aabb`, `0-3 1-2, 3-4 -1`}, {`\(a\|b\)*`, `abcb`, `0-2 1-2, 3-4 3-4`}, {`\(\)\(a*\)`, `ba`, `0-0 0-0 0-0, 1-2 1-1 1-2`}, {`\(x*\)\|a`, `ba`, `0-0 0-0, 1-2 -1`},
		{`a\|ab`, `abab`, `0-2, 2-4`}, {`a.*c\|b`, `bab`, `0-1, 2-3`}, {`b*\|ab`, `aba`, `0-2, 3-3`}, {`b\|`, `bab`, `0-1, 2-3`}, {`\|ab`, `aab`, `0-0, 1-3`}, {"\u4e2d", "\u4e2da\u4e2d", `0-1, 2-3`},
	} {
		wantAll(t, w.p, w.line, w.want)
	}
}

// what is handed in and out

func TestWhatIsHandedInIsLeft(t *testing.T) {
	p, line := []rune(`\([a-c]\)b*!!`), []rune(`abbcbxb??`)
	x, _ := regmatch.Compile(p[:len(p)-2])
	short := line[:len(line)-2]
	const want = `0-3 0-1, 3-5 3-4, 6-7 6-7`
	if got := toldAll(x.All(short)); got != want {
		t.Errorf("all matches are %s", got)
	}
	if m, _ := x.Match(short, 1); told(m) != `1-3 1-2` {
		t.Errorf("the match is %s", told(m))
	}
	if string(p) != `\([a-c]\)b*!!` || string(line) != `abbcbxb??` {
		t.Errorf("what was handed in is now %q, %q", string(p), string(line))
	}
	for i := range p {
		p[i] = 'z'
	}
	if got := toldAll(x.All(short)); got != want {
		t.Errorf("all matches behind a change of what was handed in are %s", got)
	}
}

// spoil changes spans, and what lies behind their end.
func spoil(m []api.Span) {
	for i := range m {
		m[i] = api.Span{From: 77, To: 77}
	}
	_ = append(m, slices.Repeat([]api.Span{{From: 77, To: 77}}, 9)...)
}

func TestWhatIsHandedOutIsNew(t *testing.T) {
	x := compiled(t, `\(a\)\(b\)*`)
	line := []rune(`abacab`)
	const want = `0-2 0-1 1-2, 2-3 2-3 -1, 4-6 4-5 5-6`
	l := x.All(line)
	first, _ := x.Match(line, 0)
	second, _ := x.Match(line, 0)
	for i := range l {
		before := toldAll(l[i+1:])
		spoil(l[i])
		if got := toldAll(l[i+1:]); got != before {
			t.Errorf("the other matches are now %s", got)
		}
	}
	spoil(first)
	if got := told(second); got != `0-2 0-1 1-2` {
		t.Errorf("the other match is now %s", got)
	}
	if got := toldAll(x.All(line)); got != want {
		t.Errorf("all matches are now %s", got)
	}
	if string(line) != `abacab` {
		t.Errorf("the line is now %q", string(line))
	}
}

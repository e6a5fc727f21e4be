package regpat_test

import (
	"math"
	"slices"
	"strconv"
	"strings"
	"testing"

	"inkhorn/api"
	"inkhorn/regpat"
)

// told tells a part as a text: a rune by itself, a part that has parts in brackets, behind its kind and counts.
func told(re api.Re) string {
	switch re.Kind {
	case api.ReEmpty:
		return "empty"
	case api.ReRune:
		return string(re.R)
	case api.ReAny:
		return "any"
	case api.ReSet:
		return toldSet(re)
	case api.ReBegin:
		return "begin"
	case api.ReEnd:
		return "end"
	case api.ReWordB:
		return "wordb"
	case api.ReWordE:
		return "worde"
	case api.ReCat:
		return "(cat" + toldParts(re) + ")"
	case api.ReAlt:
		return "(alt" + toldParts(re) + ")"
	case api.ReStar:
		return "(star " + strconv.Itoa(re.Lo) + " " + strconv.Itoa(re.Hi) + toldParts(re) + ")"
	case api.ReGroup:
		return "(group " + strconv.Itoa(re.Lo) + toldParts(re) + ")"
	}
	return "?"
}

// toldParts tells the parts of a part, a blank ahead of each.
func toldParts(re api.Re) string {
	var s string
	for _, x := range re.Parts {
		s += " " + told(x)
	}
	return s
}

// toldSet tells a set: its items, each with both of its ends.
func toldSet(re api.Re) string {
	s := "(set"
	if re.Not {
		s = "(not"
	}
	for _, x := range re.Set {
		s += " " + string(rune(x.From)) + string(rune(x.To))
	}
	return s + ")"
}

// bare tells whether all fields that have no meaning in a part, and in its parts, are zero.
func bare(re api.Re) bool {
	own := api.Re{Kind: re.Kind, Parts: re.Parts}
	switch re.Kind {
	case api.ReRune:
		own.R = re.R
	case api.ReSet:
		own.Set, own.Not = re.Set, re.Not
	case api.ReStar:
		own.Lo, own.Hi = re.Lo, re.Hi
	case api.ReGroup:
		own.Lo = re.Lo
	}
	if !equal(re, own) || re.Kind <= api.ReWordE && len(re.Parts) > 0 {
		return false
	}
	return !slices.ContainsFunc(re.Parts, func(x api.Re) bool { return !bare(x) })
}

// equal tells whether two parts are the same.
func equal(a, b api.Re) bool {
	return a.Kind == b.Kind && a.R == b.R && a.Not == b.Not && a.Lo == b.Lo && a.Hi == b.Hi &&
		slices.Equal(a.Set, b.Set) && slices.EqualFunc(a.Parts, b.Parts, equal)
}

// wantTree fails, if a pattern has other parts.
func wantTree(t *testing.T, p, want string) {
	t.Helper()
	re, e := regpat.Parse([]rune(p))
	if got := told(re); e != api.OK || got != want {
		t.Errorf("Parse(%q) is %s (%d), not %s", p, got, e, want)
	}
	if !bare(re) {
		t.Errorf("Parse(%q) has a field that has no meaning: %+v", p, re)
	}
}

// wantError fails, if another error is told of a pattern, or anything beside it.
func wantError(t *testing.T, p string, want api.Errno) {
	t.Helper()
	re, e := regpat.Parse([]rune(p))
	if e != want {
		t.Errorf("Parse(%q) is error %d, not %d", p, e, want)
	}
	if want != api.OK && !equal(re, api.Re{}) {
		t.Errorf("Parse(%q) tells %s beside its error", p, told(re))
	}
	if n := regpat.Groups([]rune(p)); want != api.OK && n != 0 {
		t.Errorf("Groups(%q), which is no pattern, is %d", p, n)
	}
}

// trees holds patterns against their parts.
type trees []struct{ p, want string }

// check fails, if one of the patterns has other parts.
func (l trees) check(t *testing.T) {
	t.Helper()
	for _, w := range l {
		wantTree(t, w.p, w.want)
	}
}

// 7.1

func TestTheExamples(t *testing.T) {
	trees{
		{`ab*`, `(cat a (star 0 -1 b))`},
		{`\(a\|b\)$`, `(cat (group 1 (alt a b)) end)`},
		{`*a`, `(cat * a)`},
		{`[^]a-c]`, `(not ]] ac)`},
	}.check(t)
	wantError(t, `a\{2`, api.ErrBracket)
	wantError(t, `\{2\}`, api.ErrRepeat)
	wantError(t, `a\{3,2\}`, api.ErrRepeat)
}

func TestAlternativesAndPieces(t *testing.T) {
	trees{
		{``, `empty`},
		{`a`, `a`},
		{`ab`, `(cat a b)`},
		{`abc`, `(cat a b c)`},
		{`a\|b`, `(alt a b)`},
		{`a\|b\|c`, `(alt a b c)`},
		{`ab\|c\|de*`, `(alt (cat a b) c (cat d (star 0 -1 e)))`},
		{`\|`, `(alt empty empty)`},
		{`\|\|`, `(alt empty empty empty)`},
		{`a\|`, `(alt a empty)`},
		{`\|a`, `(alt empty a)`},
		{`a\|\|b`, `(alt a empty b)`},
		{`ab\|`, `(alt (cat a b) empty)`},
	}.check(t)
}

func TestRepetitions(t *testing.T) {
	trees{
		{`a*`, `(star 0 -1 a)`},
		{`a\{2\}`, `(star 2 2 a)`},
		{`a\{2,\}`, `(star 2 -1 a)`},
		{`a\{2,3\}`, `(star 2 3 a)`},
		{`a**`, `(star 0 -1 (star 0 -1 a))`},
		{`a*\{2\}`, `(star 2 2 (star 0 -1 a))`},
		{`a\{2\}*`, `(star 0 -1 (star 2 2 a))`},
		{`a\{1\}\{2,\}\{3,4\}*b`, `(cat (star 0 -1 (star 3 4 (star 2 -1 (star 1 1 a)))) b)`},
		{`ab\{2\}c`, `(cat a (star 2 2 b) c)`},
		{`.*`, `(star 0 -1 any)`},
		{`[a]*`, `(star 0 -1 (set aa))`},
		{`[*]*`, `(star 0 -1 (set **))`},
		{`\(a\)*`, `(star 0 -1 (group 1 a))`},
		{`\(ab\)\{2,5\}c`, `(cat (star 2 5 (group 1 (cat a b))) c)`},
		{`\<*a`, `(cat (star 0 -1 wordb) a)`},
		{`\>\{2\}a`, `(cat (star 2 2 worde) a)`},
		{`\**`, `(star 0 -1 *)`},
		{`a\**`, `(cat a (star 0 -1 *))`},
		{`\\*`, `(star 0 -1 \)`},
		{`\^*`, `(star 0 -1 ^)`},
		{`]*`, `(star 0 -1 ])`},
	}.check(t)
}

func TestCounts(t *testing.T) {
	trees{
		{`a\{0\}`, `(star 0 0 a)`},
		{`a\{0,\}`, `(star 0 -1 a)`},
		{`a\{0,0\}`, `(star 0 0 a)`},
		{`a\{0,1\}`, `(star 0 1 a)`},
		{`a\{5,5\}`, `(star 5 5 a)`},
		{`a\{9,10\}`, `(star 9 10 a)`}, // by their worth, not as texts
		{`a\{99,100\}`, `(star 99 100 a)`},
		{`a\{100\}`, `(star 100 100 a)`},
		{`a\{100,\}`, `(star 100 -1 a)`},
		{`a\{0,100\}`, `(star 0 100 a)`},
		{`a\{100,100\}`, `(star 100 100 a)`},
		{`a\{007\}`, `(star 7 7 a)`},
		{`a\{00,0000000000000000000000000000100\}`, `(star 0 100 a)`},
	}.check(t)
	for _, counts := range []string{
		`101`, `101,`, `0,101`, `101,101`, `100,101`, `101,100`, `1000`, `0101`,
		`18446744073709551616`, `18446744073709551617`, `0,18446744073709551618`, `4294967297,4294967298`, `99999999999999999999999999999999`, `1,99999999999999999999999999999999`,
		`1,0`, `6,5`, `10,9`, `100,99`, `100,0`,
		``, `,`, `,2`, `x`, ` 2`, `-1`, `+1`, "\u0662", "\uFF12", `*`, `\`,
	} {
		wantError(t, `a\{`+counts+`\}`, api.ErrRepeat)
	}
	for _, counts := range []string{`2x`, `2 `, `2,x`, `2,3x`, `2,3,`, `2,,3`, `2,-3`, `2 ,3`, `2, 3`, "2\u0663", `2*`, `2\`, `2,\`, `2,3\`, `2\{3`} {
		wantError(t, `a\{`+counts+`\}`, api.ErrBracket)
	}
	for _, rest := range []string{`2`, `2,`, `2,3`, `2}`, `2,3}`, `2\`, `2,\`, `2,3\`, `100`, `2\(`, `2\)`, `2\|`, `2[`} {
		wantError(t, `a\{`+rest, api.ErrBracket)
	}
}

func TestAtoms(t *testing.T) {
	trees{
		{`.`, `any`},
		{`\.`, `.`},
		{`\<ab\>`, `(cat wordb a b worde)`},
		{`\<`, `wordb`},
		{`\>`, `worde`},
		{`\<\>`, `(cat wordb worde)`},
		{`a.b`, `(cat a any b)`},
		{`()|{}<>`, `(cat ( ) | { } < >)`},
		{`]`, `]`},
		{`-,2`, `(cat - , 2)`},
		{`\[a]`, `(cat [ a ])`},
		{`\]`, `]`},
		{`\\`, `\`},
		{`\\(`, `(cat \ ()`},
		{`\\\(a\)`, `(cat \ (group 1 a))`},
		{`\a\n\1\ \*`, `(cat a n 1   *)`},
		{`\^\$`, `(cat ^ $)`},
	}.check(t)
}

func TestEachEscapedRune(t *testing.T) {
	for c := rune(0); c < 0x180; c++ {
		if strings.ContainsRune("{}|()<>", c) {
			continue
		}
		for _, p := range [][]rune{{'\\', c}, {'\\', c, '*'}, {'^', '\\', c}} {
			want := api.Re{Kind: api.ReRune, R: c}
			switch {
			case p[0] == '^':
				want = api.Re{Kind: api.ReCat, Parts: []api.Re{{Kind: api.ReBegin}, want}}
			case len(p) == 3:
				want = api.Re{Kind: api.ReStar, Hi: -1, Parts: []api.Re{want}}
			}
			if re, e := regpat.Parse(p); e != api.OK || !equal(re, want) {
				t.Errorf("Parse(%q) is %s (%d)", string(p), told(re), e)
			}
		}
	}
}

func TestAnyRune(t *testing.T) {
	for _, c := range []rune{0, 9, 10, 13, 0x7F, 0x80, 0x301, 0x4E2D, 0xD800, 0xFFFD, 0x10FFFF, 0x110000, -1, '\\' - 256, math.MinInt32, math.MaxInt32} {
		one := api.Re{Kind: api.ReRune, R: c}
		for _, p := range [][]rune{{c}, {'\\', c}} {
			if re, e := regpat.Parse(p); e != api.OK || !equal(re, one) {
				t.Errorf("Parse(%d) is %+v (%d)", p, re, e)
			}
		}
		want := api.Re{Kind: api.ReSet, Set: []api.Span{{From: int(c), To: int(c)}, {From: math.MinInt32, To: int(c)}, {From: int(c), To: math.MaxInt32}}}
		if re, e := regpat.Parse([]rune{'[', c, math.MinInt32, '-', c, c, '-', math.MaxInt32, ']'}); e != api.OK || !equal(re, want) {
			t.Errorf("Parse of a set of %d is %+v (%d)", c, re, e)
		}
	}
}

func TestBegin(t *testing.T) {
	trees{
		{`^`, `begin`},
		{`^a`, `(cat begin a)`},
		{`^^`, `(cat begin ^)`},
		{`^^*`, `(cat begin (star 0 -1 ^))`},
		{`a^`, `(cat a ^)`},
		{`a^*b`, `(cat a (star 0 -1 ^) b)`},
		{`a\|^b`, `(alt a (cat begin b))`},
		{`a\|b^`, `(alt a (cat b ^))`},
		{`\(^a\)`, `(group 1 (cat begin a))`},
		{`a\(^\)`, `(cat a (group 1 begin))`},
		{`\(a\|^\)^`, `(cat (group 1 (alt a begin)) ^)`},
		{`\(\)^`, `(cat (group 1 empty) ^)`},
		{`*^`, `(cat * ^)`},
		{`\<^`, `(cat wordb ^)`},
		{`\^a`, `(cat ^ a)`},
		{`.^`, `(cat any ^)`},
	}.check(t)
}

func TestEnd(t *testing.T) {
	trees{
		{`$`, `end`},
		{`a$`, `(cat a end)`},
		{`$a`, `(cat $ a)`},
		{`$$`, `(cat $ end)`},
		{`$$$`, `(cat $ $ end)`},
		{`^$`, `(cat begin end)`},
		{`$^`, `(cat $ ^)`},
		{`$*`, `(star 0 -1 $)`},
		{`$\{2\}$`, `(cat (star 2 2 $) end)`},
		{`a$\|b$`, `(alt (cat a end) (cat b end))`},
		{`$\|$a`, `(alt end (cat $ a))`},
		{`\(a$\)$`, `(cat (group 1 (cat a end)) end)`},
		{`\($\)b`, `(cat (group 1 end) b)`},
		{`$\(a\)`, `(cat $ (group 1 a))`},
		{`$\<`, `(cat $ wordb)`},
		{`$\\`, `(cat $ \)`},
		{`$|`, `(cat $ |)`},
		{`$)`, `(cat $ ))`},
		{`\$`, `$`},
		{`*$`, `(cat * end)`},
	}.check(t)
}

func TestStarThatIsARune(t *testing.T) {
	trees{
		{`*`, `*`},
		{`**`, `(star 0 -1 *)`},
		{`***`, `(star 0 -1 (star 0 -1 *))`},
		{`*\{2\}`, `(star 2 2 *)`},
		{`^*`, `(cat begin *)`},
		{`^**`, `(cat begin (star 0 -1 *))`},
		{`^*\{2\}a`, `(cat begin (star 2 2 *) a)`},
		{`a\|*b`, `(alt a (cat * b))`},
		{`a\|^*b`, `(alt a (cat begin * b))`},
		{`\(*a\)`, `(group 1 (cat * a))`},
		{`\(^*a\)`, `(group 1 (cat begin * a))`},
		{`\(*\)*`, `(star 0 -1 (group 1 *))`},
		{`\|*`, `(alt empty *)`},
		{`*\|**`, `(alt * (star 0 -1 *))`},
	}.check(t)
	for _, p := range []string{`\{2\}`, `^\{2\}`, `a\|\{2\}`, `a\|^\{2\}`, `\(\{2\}\)`, `\(^\{2\}\)`, `\(\|\{2,3\}\)`, `\{`, `^\{`, `\{2`, `^\{2`, `\{2,`, `\{,`, `\{\}`} {
		wantError(t, p, api.ErrRepeat)
	}
}

func TestGroups(t *testing.T) {
	trees{
		{`\(\)`, `(group 1 empty)`},
		{`\(a\)`, `(group 1 a)`},
		{`\(a\)\(b\)`, `(cat (group 1 a) (group 2 b))`},
		{`\(\(a\)\)`, `(group 1 (group 2 a))`},
		{`\(\(a\)\(b\)\)\(c\)`, `(cat (group 1 (cat (group 2 a) (group 3 b))) (group 4 c))`},
		{`\(a\|\(b\)\)\|\(c\)`, `(alt (group 1 (alt a (group 2 b))) (group 3 c))`},
		{`\(\|\)`, `(group 1 (alt empty empty))`},
		{`\(\(\)\|a\)*\(b*\)`, `(cat (star 0 -1 (group 1 (alt (group 2 empty) a))) (group 3 (star 0 -1 b)))`},
	}.check(t)
}

func TestSets(t *testing.T) {
	trees{
		{`[a]`, `(set aa)`},
		{`[ab]`, `(set aa bb)`},
		{`[ba]`, `(set bb aa)`},
		{`[aa]`, `(set aa aa)`},
		{`[a-c]`, `(set ac)`},
		{`[a-a]`, `(set aa)`},
		{`[x-za-cb]`, `(set xz ac bb)`},
		{`[^a]`, `(not aa)`},
		{`[^a-c0-9]`, `(not ac 09)`},
		{`[a^]`, `(set aa ^^)`},
		{`[^^]`, `(not ^^)`},
		{`[^^-a]`, `(not ^a)`},
		{`[]]`, `(set ]])`},
		{`[]a]`, `(set ]] aa)`},
		{`[]-a]`, `(set ]a)`},
		{`[]-]`, `(set ]] --)`},
		{`[^]]`, `(not ]])`},
		{`[^]-a]`, `(not ]a)`},
		{`[a]]`, `(cat (set aa) ])`},
		{`[]]]`, `(cat (set ]]) ])`},
		{`[a-]`, `(set aa --)`},
		{`[a-]]`, `(cat (set aa --) ])`},
		{`[-]`, `(set --)`},
		{`[-a]`, `(set -- aa)`},
		{`[^-a]`, `(not -- aa)`},
		{`[--a]`, `(set -a)`},
		{`[---]`, `(set --)`},
		{`[+--]`, `(set +-)`},
		{`[a-c-e]`, `(set ac -- ee)`},
		{`[a-c-]`, `(set ac --)`},
		{`[\]`, `(set \\)`},
		{`[\]]`, `(cat (set \\) ])`},
		{`[\n]`, `(set \\ nn)`},
		{`[a\]b`, `(cat (set aa \\) b)`},
		{`[\-a]`, `(set \a)`},
		{`[A-\]`, `(set A\)`},
		{`[[]`, `(set [[)`},
		{`[[a]b]`, `(cat (set [[ aa) b ])`},
		{`[.*$]`, `(set .. ** $$)`},
		{`[\(]\([\)]\)`, `(cat (set \\ (() (group 1 (set \\ )))))`},
		{`[a\|b]\|c`, `(alt (set aa \\ || bb) c)`},
	}.check(t)
	for _, p := range []string{`[`, `[^`, `[]`, `[^]`, `[a`, `[a-`, `[a-c`, `[]a`, `[-`, `[\`, `[a\`, `[[`, `a[b`, `[a]]][`, `[b-a`, `[^b-a`, `[b-ac`, `[b-a\`, `[a\)`, `\([a\)`, `[b-a-`} {
		wantError(t, p, api.ErrBracket)
	}
	for _, p := range []string{`[b-a]`, `[^b-a]`, `[ab-a]`, `[b-ac-d]`, `[]-A]`, `[a-\]`, `[a--]`, `[a--b]`, `[a-c-e-d]`, `[^^-A]`, `[9-0]*`} {
		wantError(t, p, api.ErrForm)
	}
}

func TestWhatIsHandedInStays(t *testing.T) {
	p := []rune(`\(a[^b-d]*\|^c\{2,3\}\)\<$ and what is behind`)
	given := slices.Clone(p)
	n := len(p) - len(` and what is behind`)
	re, e := regpat.Parse(p[:n])
	want := told(re)
	if e != api.OK || want != `(cat (group 1 (alt (cat a (star 0 -1 (not bd))) (cat begin (star 2 3 c)))) wordb end)` {
		t.Fatalf("Parse(%q) is %s (%d)", string(p[:n]), want, e)
	}
	regpat.Groups(p[:n])
	if !slices.Equal(p, given) {
		t.Fatalf("what was handed in is now %q", string(p))
	}
	for i := range p {
		p[i] = '-'
	}
	if told(re) != want {
		t.Fatalf("the answer is now %s", told(re))
	}
}

func TestWhatIsHandedOutIsNew(t *testing.T) {
	p := []rune(`\(a[b-dx]\|e[fg]\)h*i\|j\|k`)
	first, _ := regpat.Parse(p)
	want := told(first)
	const lists = 9
	for n := range lists + 1 {
		re, _ := regpat.Parse(p)
		at, signs := 0, 0
		spoil(&re, func(size int) bool {
			at++
			if at == n {
				signs = size
			}
			return at == n
		})
		if got := strings.Count(told(re), "!"); at != lists || got != signs || n > 0 && signs == 0 {
			t.Errorf("list %d of %d shares memory with another one: %s", n, at, told(re))
		}
	}
	if told(first) != want {
		t.Errorf("answers share memory: %s", told(first))
	}
}

// spoil writes ! over those lists of a part and of its parts for which one asks, up to where their memory ends; it tells how many ! are then told of one.
func spoil(re *api.Re, asked func(size int) bool) {
	if len(re.Set) > 0 && asked(2*len(re.Set)) {
		for i := range re.Set[:cap(re.Set)] {
			re.Set[:cap(re.Set)][i] = api.Span{From: '!', To: '!'}
		}
	}
	for i := range re.Parts {
		spoil(&re.Parts[i], asked)
	}
	if len(re.Parts) > 0 && asked(len(re.Parts)) {
		for i := range re.Parts[:cap(re.Parts)] {
			re.Parts[:cap(re.Parts)][i] = api.Re{Kind: api.ReRune, R: '!'}
		}
	}
}

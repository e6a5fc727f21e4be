package regpat_test

import (
	"math/rand"
	"regexp"
	"slices"
	"strconv"
	"strings"
	"testing"

	"inkhorn/api"
	"inkhorn/regpat"
)

// 7.1: which error is told

func TestErrorsOfOneRune(t *testing.T) {
	for _, w := range []struct {
		p string
		e api.Errno
	}{
		{`\`, api.ErrForm}, {`a\`, api.ErrForm}, {`\\\`, api.ErrForm}, {`$\`, api.ErrForm}, {`^\`, api.ErrForm}, {`*\`, api.ErrForm}, {`a\|\`, api.ErrForm}, {`a*\`, api.ErrForm}, {`[a]\`, api.ErrForm}, {`\(a\)\`, api.ErrForm}, {`a\{2\}\`, api.ErrForm},
		{`\)`, api.ErrBracket}, {`a\)`, api.ErrBracket}, {`\(a\)\)`, api.ErrBracket}, {`a\|\)`, api.ErrBracket}, {`^\)`, api.ErrBracket}, {`$\)`, api.ErrBracket}, {`\)\(`, api.ErrBracket},
		{`\}`, api.ErrBracket}, {`a\}`, api.ErrBracket}, {`^\}`, api.ErrBracket}, {`a\{2\}\}`, api.ErrBracket}, {`\(\}\)`, api.ErrBracket}, {`a\|\}`, api.ErrBracket},
		{`\(`, api.ErrBracket}, {`\(a`, api.ErrBracket}, {`\(a\(b\)`, api.ErrBracket}, {`\(\(a\)`, api.ErrBracket}, {`a\(b\|c`, api.ErrBracket}, {`\(\|`, api.ErrBracket}, {`\(a\\)`, api.ErrBracket}, {`\(a)`, api.ErrBracket}, {`\(a[\)]`, api.ErrBracket},
	} {
		wantError(t, w.p, w.e)
	}
}

func TestTheFirstRuneWithAnErrorIsTold(t *testing.T) {
	deep := strings.Repeat(`\(`, api.MaxNest)
	large := strings.Repeat(`a`, api.MaxNodes)
	for _, w := range []struct {
		p string
		e api.Errno
	}{
		{`\)\`, api.ErrBracket}, {`\}[b-a]`, api.ErrBracket}, {`[b-a]\)`, api.ErrForm}, {`[b-a]\`, api.ErrForm}, {`[b-a][`, api.ErrForm}, {`\)\{2\}`, api.ErrBracket}, {`\{2\}\)`, api.ErrRepeat}, {`\{2\}\`, api.ErrRepeat},
		{`a\{2\`, api.ErrBracket}, {`a\{2,3\`, api.ErrBracket}, {`a\{2[b-a]`, api.ErrBracket}, {`a\{2x\{101\}`, api.ErrBracket},
		{`a\{\`, api.ErrRepeat}, {`a\{101\`, api.ErrRepeat}, {`a\{101`, api.ErrRepeat}, {`a\{3,2`, api.ErrRepeat}, {`a\{3,2x`, api.ErrRepeat}, {`a\{1,101`, api.ErrRepeat}, {`a\{`, api.ErrRepeat}, {`a\{,2`, api.ErrRepeat}, {`a\{101\}\)`, api.ErrRepeat}, {`a\{3,2\}[b-a]`, api.ErrRepeat},
		{`[b-a`, api.ErrBracket}, {`[b-a\(`, api.ErrBracket}, {`[b-a]a\{101\}`, api.ErrForm},
		{`\([b-a]`, api.ErrForm}, {`\(\`, api.ErrForm}, {`\(\{2\}`, api.ErrRepeat}, {`\(a\{101\}`, api.ErrRepeat}, {`\(a\}`, api.ErrBracket}, {`\([a`, api.ErrBracket},
		{deep + `\(`, api.ErrDeep}, {deep + `\(\`, api.ErrDeep}, {deep + `\([b-a]`, api.ErrDeep}, {deep + `\\(`, api.ErrBracket}, {deep + `\`, api.ErrForm}, {deep + `[b-a]\(`, api.ErrForm}, {deep + `a\{101\}\(`, api.ErrRepeat}, {deep + `\}\(`, api.ErrBracket}, {deep, api.ErrBracket},
		{large, api.ErrDeep}, {large + `\`, api.ErrForm}, {large + `[b-a]`, api.ErrForm}, {large + `\(`, api.ErrBracket}, {large + `\)`, api.ErrBracket}, {large + `[a`, api.ErrBracket}, {large + `\{101\}`, api.ErrRepeat}, {large + `\|\{1\}`, api.ErrRepeat}, {`\(` + large, api.ErrBracket}, {large + deep + `\(`, api.ErrDeep}, {large + deep, api.ErrBracket},
	} {
		wantError(t, w.p, w.e)
	}
}

// counted is what may stand behind \{: a count, a comma, another count, its \}.
var counted = regexp.MustCompile(`^([0-9]+)(,?)([0-9]*)(\\})?`)

// badCounts tells the error of what stands behind \{, where that may stand.
func badCounts(rest string) api.Errno {
	m := counted.FindStringSubmatch(rest)
	if m == nil {
		return api.ErrRepeat
	}
	lo, e := strconv.Atoi(m[1])
	if e != nil || lo > 100 {
		return api.ErrRepeat
	}
	if m[3] != "" {
		if hi, e := strconv.Atoi(m[3]); e != nil || hi > 100 || hi < lo {
			return api.ErrRepeat
		}
	}
	if m[4] == "" {
		return api.ErrBracket
	}
	return api.OK
}

// inSet tells the runes of a set's items, which begins with p, without its [ and ^; and where it ends, or -1.
func inSet(p string) (string, int) {
	from := 1 + len(p[1:]) - len(strings.TrimPrefix(p[1:], "^"))
	if from == len(p) {
		return "", -1
	}
	n := strings.IndexByte(p[from+1:], ']') // the first item may be one
	if n < 0 {
		return "", -1
	}
	return p[from : from+1+n], from + 1 + n + 1
}

// itemOfSet is an item of a set: two runes and a - between them, or one.
var itemOfSet = regexp.MustCompile(`(.)-(.)|(.)`)

// itemsIn tells the items in the runes of a set.
func itemsIn(runes string) []api.Span {
	var l []api.Span
	for _, m := range itemOfSet.FindAllStringSubmatch(runes, -1) {
		if m[3] != "" {
			m[1], m[2] = m[3], m[3]
		}
		l = append(l, api.Span{From: int(m[1][0]), To: int(m[2][0])})
	}
	return l
}

// wantedError tells the error of a pattern of ASCII runes, but for its size.
func wantedError(p string) api.Errno {
	open := 0
	bare := true // nothing stands ahead that could be repeated
	first := true
	for i := 0; i < len(p); {
		two := p[i:min(i+2, len(p))]
		switch {
		case p[i] == '[':
			runes, n := inSet(p[i:])
			if n < 0 {
				return api.ErrBracket
			}
			if slices.ContainsFunc(itemsIn(runes), func(x api.Span) bool { return x.To < x.From }) {
				return api.ErrForm
			}
			i, bare, first = i+n, false, false
		case p[i] != '\\':
			bare = first && p[i] == '^'
			first = false
			i++
		case two == `\`:
			return api.ErrForm
		case two == `\}` || two == `\)` && open == 0:
			return api.ErrBracket
		case two == `\{`:
			if bare {
				return api.ErrRepeat
			}
			if e := badCounts(p[i+2:]); e != api.OK {
				return e
			}
			i += 2 + len(counted.FindString(p[i+2:]))
		default:
			switch two {
			case `\(`:
				open++
			case `\)`:
				open--
			}
			if open > 16 {
				return api.ErrDeep
			}
			first = two == `\(` || two == `\|`
			bare = first
			i += 2
		}
	}
	if open > 0 {
		return api.ErrBracket
	}
	return api.OK
}

// eachText hands on each text of up to n of the signs.
func eachText(signs []string, n int, on func(s string)) {
	texts := []string{""}
	for range n + 1 {
		var longer []string
		for _, s := range texts {
			on(s)
			for _, sign := range signs {
				longer = append(longer, s+sign)
			}
		}
		texts = longer
	}
}

func TestTheErrorOfEachShortText(t *testing.T) {
	eachText(strings.Split(`\ ( ) | { } 1 2 , * ^ $ [ ] - a`, " "), 4, func(s string) {
		wantError(t, s, wantedError(s))
	})
	eachText(strings.Split(`\( \) \| \{1\} \{2,1\} \{1 \} * ^ $ [b-a] [a ] \ a`, " "), 4, func(s string) {
		wantError(t, s, wantedError(s))
	})
}

// spelt tells a pattern of a tree: just the one from which it was read, where that has neither a \ that is not needed, nor a count or an item of a set that could be shorter.
func spelt(re api.Re) string {
	var s string
	for i, x := range re.Parts {
		if i > 0 && re.Kind == api.ReAlt {
			s += `\|`
		}
		s += spelt(x)
	}
	switch re.Kind {
	case api.ReRune:
		return string(re.R)
	case api.ReAny:
		return `.`
	case api.ReBegin:
		return `^`
	case api.ReEnd:
		return `$`
	case api.ReWordB:
		return `\<`
	case api.ReWordE:
		return `\>`
	case api.ReStar:
		return s + speltCounts(re)
	case api.ReGroup:
		return `\(` + s + `\)`
	}
	return s
}

// speltCounts tells the repetition that a part is.
func speltCounts(re api.Re) string {
	lo, hi := strconv.Itoa(re.Lo), strconv.Itoa(re.Hi)
	switch {
	case re.Lo == 0 && re.Hi == -1:
		return `*`
	case re.Hi == -1:
		return `\{` + lo + `,\}`
	case re.Hi == re.Lo:
		return `\{` + lo + `\}`
	}
	return `\{` + lo + `,` + hi + `\}`
}

// formed tells whether a tree is one that the chapter's words make: parts where they may be, and groups by their numbers from n on; and the number of the next group.
func formed(re api.Re, n int) (bool, int) {
	if re.Kind == api.ReGroup {
		if re.Lo != n {
			return false, n
		}
		n++
	}
	ok := true
	for _, x := range re.Parts {
		var fine bool
		fine, n = formed(x, n)
		ok = ok && fine && fits(re, x)
	}
	switch re.Kind {
	case api.ReCat, api.ReAlt:
		ok = ok && len(re.Parts) > 1
	case api.ReStar, api.ReGroup:
		ok = ok && len(re.Parts) == 1
	}
	return ok, n
}

// fits tells whether a part may have that one.
func fits(re, x api.Re) bool {
	switch re.Kind {
	case api.ReCat:
		return x.Kind != api.ReCat && x.Kind != api.ReAlt && x.Kind != api.ReEmpty
	case api.ReAlt:
		return x.Kind != api.ReAlt
	case api.ReStar:
		return x.Kind != api.ReCat && x.Kind != api.ReAlt && x.Kind != api.ReEmpty && x.Kind != api.ReBegin && x.Kind != api.ReEnd
	}
	return true
}

// placed tells whether in each alternative ^, $ and * are runes where they should be, and else not.
func placed(re api.Re) bool {
	pieces := []api.Re{re}
	switch re.Kind {
	case api.ReAlt:
		return !slices.ContainsFunc(re.Parts, func(x api.Re) bool { return !placed(x) })
	case api.ReCat:
		pieces = re.Parts
	}
	for i, x := range pieces {
		first, last, star := i == 0, i == len(pieces)-1, x.Kind == api.ReStar
		for x.Kind == api.ReStar {
			x = x.Parts[0]
		}
		begun := i == 1 && pieces[0].Kind == api.ReBegin
		switch {
		case x.Kind == api.ReGroup && !placed(x.Parts[0]),
			x.Kind == api.ReBegin && !first,
			x.Kind == api.ReEnd && !last,
			x.Kind == api.ReRune && x.R == '^' && first,
			x.Kind == api.ReRune && x.R == '$' && last && !star,
			x.Kind == api.ReRune && x.R == '*' && !first && !begun:
			return false
		}
	}
	return true
}

// wantShape fails, if a pattern that is spelt as spelt does it has other parts than the chapter's words make.
func wantShape(t *testing.T, p string) {
	t.Helper()
	re, e := regpat.Parse([]rune(p))
	if e != api.OK {
		return
	}
	ok, next := formed(re, 1)
	if s := spelt(re); s != p || !ok || !placed(re) || !bare(re) {
		t.Errorf("Parse(%q) is %s, which is %q", p, told(re), s)
	}
	if n := regpat.Groups([]rune(p)); n != next-1 || n != strings.Count(p, `\(`) {
		t.Errorf("Groups(%q) is %d", p, n)
	}
}

// plainSigns are signs of which each pattern is spelt as spelt does it.
var plainSigns = strings.Split(`\( \) \| \{1\} \{2,\} \{3,4\} \< \> * ^ $ . a ]`, " ")

func TestThePartsOfEachShortPattern(t *testing.T) {
	eachText(plainSigns, 4, func(s string) { wantShape(t, s) })
}

func TestPatternsByChance(t *testing.T) {
	chance := rand.New(rand.NewSource(7))
	signs := append(strings.Split(`\{1 \{1, \{2,1\} \{ \} [a [^a-b] [b-a] [ ] - \ 1 ,`, " "), plainSigns...)
	for range 100000 {
		var plain, any string
		for range chance.Intn(12) {
			plain += plainSigns[chance.Intn(len(plainSigns))]
		}
		for range chance.Intn(12) {
			any += signs[chance.Intn(len(signs))]
		}
		wantShape(t, plain)
		if e := wantedError(any); e != api.OK {
			wantError(t, any, e)
		} else if _, e := regpat.Parse([]rune(any)); e != api.OK && e != api.ErrDeep {
			t.Errorf("Parse(%q) is error %d", any, e)
		}
	}
}

func TestEachShortSet(t *testing.T) {
	eachText(strings.Split(`a b c - ] ^ \ [`, " "), 6, func(s string) {
		p := "[" + s
		runes, n := inSet(p)
		if n != len(p) {
			return
		}
		re, e := regpat.Parse([]rune(p))
		want := itemsIn(runes)
		if slices.ContainsFunc(want, func(x api.Span) bool { return x.To < x.From }) {
			wantError(t, p, api.ErrForm)
			return
		}
		if e != api.OK || re.Kind != api.ReSet || re.Not != (s[0] == '^') || !slices.Equal(re.Set, want) || !bare(re) {
			t.Errorf("Parse(%q) is %s (%d)", p, told(re), e)
		}
	})
}

package regmatch_test

import (
	"math/rand"
	"slices"
	"strings"
	"testing"

	"inkhorn/api"
	"inkhorn/regpat"
)

// walker goes all ways of a pattern through a line, each by itself, the ones that are ahead first; it gives up at too many.
type walker struct {
	line []rune
	left int // so many parts it still looks at
}

// on is what is done where a way ends.
type on func(at int, groups []api.Span)

// inWord tells whether there is a word rune at that place.
func (w *walker) inWord(at int) bool {
	if at < 0 || at >= len(w.line) {
		return false
	}
	c := w.line[at]
	return c > 0x7F || c >= 0 && strings.ContainsRune("_0123456789abcdefghijklmnopqrstuvwxyzABCDEFGHIJKLMNOPQRSTUVWXYZ", c)
}

// ways hands on each way of a part from a place on.
func (w *walker) ways(re api.Re, at int, groups []api.Span, then on) {
	if w.left--; w.left < 0 {
		return
	}
	switch re.Kind {
	case api.ReEmpty:
		then(at, groups)
	case api.ReRune, api.ReAny, api.ReSet:
		if at < len(w.line) && isOne(re, w.line[at]) {
			then(at+1, groups)
		}
	case api.ReCat:
		w.inSequence(re.Parts, at, groups, then)
	case api.ReAlt:
		for _, x := range re.Parts {
			w.ways(x, at, groups, then)
		}
	case api.ReGroup:
		w.ways(re.Parts[0], at, groups, func(end int, inner []api.Span) {
			inner = slices.Clone(inner)
			inner[re.Lo] = api.Span{From: at, To: end}
			then(end, inner)
		})
	case api.ReStar:
		w.rounds(re, 0, at, groups, then)
	default:
		if w.isAt(re.Kind, at) {
			then(at, groups)
		}
	}
}

// isOne tells whether a part of one rune is of that one.
func isOne(re api.Re, c rune) bool {
	in := slices.ContainsFunc(re.Set, func(s api.Span) bool { return int(c) >= s.From && int(c) <= s.To })
	return re.Kind == api.ReAny || re.Kind == api.ReRune && re.R == c || re.Kind == api.ReSet && in != re.Not
}

// isAt tells whether a place is one of that kind.
func (w *walker) isAt(kind, at int) bool {
	switch kind {
	case api.ReBegin:
		return at == 0
	case api.ReEnd:
		return at == len(w.line)
	case api.ReWordB:
		return w.inWord(at) && !w.inWord(at-1)
	}
	return w.inWord(at-1) && !w.inWord(at)
}

// inSequence hands on each way of parts, one behind the other.
func (w *walker) inSequence(parts []api.Re, at int, groups []api.Span, then on) {
	if len(parts) == 0 {
		then(at, groups)
		return
	}
	w.ways(parts[0], at, groups, func(end int, inner []api.Span) {
		w.inSequence(parts[1:], end, inner, then)
	})
}

// rounds hands on each way of a repetition of which so many rounds are done.
func (w *walker) rounds(re api.Re, done, at int, groups []api.Span, then on) {
	if re.Hi < 0 || done < re.Hi {
		w.ways(re.Parts[0], at, groups, func(end int, inner []api.Span) {
			if done < re.Lo || end != at {
				w.rounds(re, done+1, end, inner, then)
			}
		})
	}
	if done >= re.Lo {
		then(at, groups)
	}
}

// wanted tells the match of a pattern, and whether all ways were gone.
func wanted(re api.Re, groups int, line []rune, from int) ([]api.Span, bool) {
	w := &walker{line, 20000}
	none := slices.Repeat([]api.Span{{From: -1, To: -1}}, groups+1)
	for begin := from; begin <= len(line); begin++ {
		var best []api.Span
		w.ways(re, begin, none, func(end int, l []api.Span) {
			if best == nil || end > best[0].To {
				best = slices.Clone(l)
				best[0] = api.Span{From: begin, To: end}
			}
		})
		if best != nil || w.left < 0 {
			return best, w.left >= 0
		}
	}
	return nil, w.left >= 0
}

// wantedAll tells all matches of a pattern, and whether all ways were gone.
func wantedAll(re api.Re, groups int, line []rune) ([][]api.Span, bool) {
	var all [][]api.Span
	from := 0
	for {
		m, ok := wanted(re, groups, line, from)
		if n := len(all); ok && m != nil && n > 0 && m[0].From == m[0].To && all[n-1][0].To == m[0].From {
			m, ok = wanted(re, groups, line, from+1)
		}
		if m == nil || !ok {
			return all, ok
		}
		all = append(all, m)
		from = m[0].To
		if m[0].From == m[0].To {
			from++
		}
	}
}

// wantAsWalked fails, if a pattern's matches in lines are not those among all its ways; it tells how many lines had too many ways.
func wantAsWalked(t *testing.T, p string, lines []string) int {
	t.Helper()
	re, e := regpat.Parse([]rune(p))
	if e != api.OK {
		return 0
	}
	x := compiled(t, p)
	given := 0
	for _, s := range lines {
		line := []rune(s)
		for from := range len(line) + 1 {
			want, ok := wanted(re, x.Groups(), line, from)
			if got, found := x.Match(line, from); ok && (found != (want != nil) || !slices.Equal(got, want)) {
				t.Errorf("the match of %q in %q from %d is %s, not %s", p, s, from, told(got), told(want))
			}
		}
		want, ok := wantedAll(re, x.Groups(), line)
		if !ok {
			given++
		} else if got := toldAll(x.All(line)); got != toldAll(want) {
			t.Errorf("all matches of %q in %q are %s, not %s", p, s, got, toldAll(want))
		}
	}
	return given
}

// eachText tells each text of up to n of the signs.
func eachText(signs []string, n int) []string {
	all := []string{""}
	begin := 0
	for range n {
		end := len(all)
		for _, s := range all[begin:end] {
			for _, sign := range signs {
				all = append(all, s+sign)
			}
		}
		begin = end
	}
	return all
}

// 8.1, 8.2: held against all ways

func TestEachShortPattern(t *testing.T) {
	lines := []string{"", "a", "b", "ba", "aab", "aba", "abb"}
	for _, p := range eachText(strings.Split(`a b * \{2\} \{1,\} \( \) \|`, " "), 5) {
		wantAsWalked(t, p, lines)
	}
	lines = []string{"", "a", " ", "a ", " a", "aa a", " a\u0080 ", "\u0080a", "\x7f\u0080\u0080"}
	for _, p := range eachText(strings.Split(`a . [^a] ^ $ \< \> * \{0,2\} \(\) \|`, " "), 4) {
		wantAsWalked(t, p, lines)
	}
}

// chancePart tells a piece, an alternative, or alternatives by chance.
func chancePart(chance *rand.Rand, deep int) string {
	atoms := strings.Split(`a|b|.|[^a]|\<|\>|a|b|\(\)`, "|")
	s := atoms[chance.Intn(len(atoms))]
	if deep > 0 && chance.Intn(4) > 0 {
		s = `\(` + chanceParts(chance, deep-1) + `\)`
	}
	times := strings.Split(`*|\{0\}|\{1,\}|\{2,\}|\{3,\}|\{0,1\}|\{2\}|\{1,2\}|\{2,4\}|\{0,3\}`, "|")
	for chance.Intn(2) > 0 {
		s += times[chance.Intn(len(times))]
	}
	return s
}

// chanceParts tells alternatives by chance.
func chanceParts(chance *rand.Rand, deep int) string {
	var s string
	for chance.Intn(3) == 0 {
		s += chanceCat(chance, deep) + `\|`
	}
	return s + chanceCat(chance, deep)
}

// chanceCat tells an alternative by chance.
func chanceCat(chance *rand.Rand, deep int) string {
	var s string
	if chance.Intn(8) == 0 {
		s = `^`
	}
	for range chance.Intn(4) {
		s += chancePart(chance, deep)
	}
	if chance.Intn(8) == 0 {
		s += `$`
	}
	return s
}

func TestPatternsByChance(t *testing.T) {
	chance := rand.New(rand.NewSource(8))
	lines, given := 0, 0
	for range 4000 {
		p := chanceParts(chance, 3)
		var l []string
		for range 5 {
			var s string
			for range chance.Intn(7) {
				s += string([]rune("aaabb \u0080")[chance.Intn(7)])
			}
			l = append(l, s)
		}
		lines += len(l)
		given += wantAsWalked(t, p, l)
	}
	if given > lines/4 {
		t.Errorf("%d of %d lines had too many ways", given, lines)
	}
}

package regmatch_test

import (
	"slices"
	"strconv"
	"strings"
	"testing"

	"inkhorn/api"
)

// spanTold tells a span as a text.
func spanTold(from, to int) string {
	return strconv.Itoa(from) + "-" + strconv.Itoa(to)
}

// times tells a text so many times.
func times(s string, n int) string {
	return strings.Repeat(s, n)
}

// 8.1, 8.2: repetitions of repetitions

// nests are an a with as many repetitions behind it as the size lets be, and of how many of them it may be.
var nests = []struct {
	p         string
	none, any bool // of none, of more than one
}{
	{`a` + times(`\{1,\}`, 49), false, true},
	{`a` + times(`\{1,\}`, 399), false, true},
	{`a` + times(`*`, 399), true, true},
	{`a` + times(`\{0,\}`, 399), true, true},
	{`a` + times(`\{1\}`, 399), false, false},
	{`a` + times(`\{1,1\}`, 399), false, false},
	{`a` + times(`\{0,1\}`, 399), true, false},
	{`a*` + times(`\{1,\}`, 398), true, true},
	{`a` + times(`\{0,1\}\{1,\}`, 199), true, true},
	{`a` + times(`\{1,\}\{0,1\}`, 199), true, true},
	{`a` + times(`*\{1,\}`, 199), true, true},
	{`a` + times(`\{1,\}*`, 199), true, true},
}

func TestRepetitionsOfRepetitions(t *testing.T) {
	for _, w := range nests {
		for _, n := range []int{0, 1, 2, 20} {
			line, want := times(`a`, n), spanTold(0, min(n, 1))
			switch {
			case n == 0 && !w.none:
				want = `no`
			case w.any:
				want = spanTold(0, n)
			}
			wantMatchFrom(t, w.p, line, 0, want)
			wantMatchFrom(t, w.p, line+`b`, 0, want)
			if !w.none && n > 0 && w.any {
				wantAll(t, w.p, `b`+line+`bb`+line, spanTold(1, n+1)+", "+spanTold(n+3, 2*n+3))
			}
			if w.none && n > 0 && w.any {
				wantAll(t, w.p, `b`+line, `0-0, `+spanTold(1, n+1))
				wantAll(t, w.p, line+`b`, spanTold(0, n)+", "+spanTold(n+1, n+1))
			}
		}
		if !w.any && w.none {
			wantAll(t, w.p, `aaba`, `0-1, 1-2, 3-4`)
		}
	}
	wantMatchFrom(t, `a\{2\}*`+times(`\{1,\}\{0,1\}`, 198), `aaaaab`, 0, `0-4`)
}

func TestRepetitionsOfGroupsInOneAnother(t *testing.T) {
	for _, w := range []struct {
		times string
		none  bool
	}{{`\{1,\}`, false}, {`*`, true}, {`\{1,\}*`, true}, {`\{1,\}\{1,\}`, false}} {
		p := `a`
		for range api.MaxNest {
			p = `\(` + p + `\)` + w.times
		}
		for _, n := range []int{1, 2, 30} {
			line := times(`a`, n)
			want := times(spanTold(0, n)+" ", api.MaxNest) + spanTold(n-1, n)
			wantMatchFrom(t, p, `b`+line, 1, strings.NewReplacer(spanTold(0, n), spanTold(1, n+1), spanTold(n-1, n), spanTold(n, n+1)).Replace(want))
			wantMatchFrom(t, p, line, 0, want)
			wantAll(t, p, line, want)
		}
		if w.none {
			wantMatchFrom(t, p, `b`, 0, `0-0`+times(` -1`, api.MaxNest))
		} else {
			wantMatchFrom(t, p, `b`, 0, `no`)
		}
	}
}

func TestEmptyRoundsOfRepetitionsInOneAnother(t *testing.T) {
	p := `\(a*\)` + times(`\{1,\}`, 397)
	wantMatchFrom(t, p, ``, 0, `0-0 0-0`)
	wantMatchFrom(t, p, `aab`, 0, `0-2 0-2`)
	wantAll(t, p, `baa`, `0-0 0-0, 1-3 1-3`)
	p = `\(\)` + times(`\{1,\}`, 397)
	wantMatchFrom(t, p, `a`, 0, `0-0 0-0`)
	wantAll(t, p, `a`, `0-0 0-0, 1-1 1-1`)
	p = `\(\)` + times(`*`, 397)
	wantMatchFrom(t, p, `a`, 0, `0-0 -1`)
	p = `\(\(\)\|b\)` + times(`\{1,\}`, 394)
	wantMatchFrom(t, p, `bb`, 0, `0-2 1-2 0-0`)
	p = `\(\(\)\|b\)` + times(`*`, 394)
	wantMatchFrom(t, p, `bb`, 0, `0-2 1-2 -1`)
	p = `\<` + times(`\{1,\}`, 397) + `a`
	wantMatchFrom(t, p, `-a`, 0, `1-2`)
	wantMatchFrom(t, p, `ba`, 0, `no`)
}

// 8.1, 8.2: the largest sizes

func TestTheLargestPatterns(t *testing.T) {
	n := api.MaxNodes - 1
	wantMatchFrom(t, times(`a`, n), times(`a`, n), 0, spanTold(0, n))
	wantMatchFrom(t, times(`a`, n), times(`a`, n-1), 0, `no`)
	wantMatchFrom(t, times(`a`, n), times(`a`, n-1)+`b`+times(`a`, n+1), 0, spanTold(n, 2*n))
	wantMatchFrom(t, times(`a*`, n/2), times(`a`, 3*n), 0, spanTold(0, 3*n))
	wantMatchFrom(t, times(`a\|`, n-1)+`b`, `cb`, 0, `1-2`)
	wantMatchFrom(t, times(`\|`, n-1), `a`, 0, `0-0`)
	wantMatchFrom(t, `a\{100\}\{3\}`, times(`a`, 301), 0, `0-300`)
	wantMatchFrom(t, `a\{100\}\{3\}`, times(`a`, 299), 0, `no`)
	wantMatchFrom(t, `a\{100\}\{2,3\}`, times(`a`, 299), 0, `0-200`)
	wantMatchFrom(t, `a\{2,100\}\{3,\}`, times(`a`, 777), 0, `0-777`)
	wantMatchFrom(t, `\(a\{0,1\}\)\{100\}b`, times(`a`, 101)+`b`, 0, `1-102 100-101`)
	wantMatchFrom(t, `a\{0,100\}`+times(`\{1\}`, 299), times(`a`, 101), 0, `0-100`)

	wantMatchFrom(t, times(`\(\)`, 199), `a`, 0, `0-0`+times(` 0-0`, 199))
	want := spanTold(0, 199)
	for i := range 199 {
		want += " " + spanTold(i, i+1)
	}
	wantMatchFrom(t, times(`\(.\)`, 199), times(`ab`, 100), 0, want)
	wantMatchFrom(t, times(`\(a\)\|`, 132)+`\(b\)`, `b`, 0, `0-1`+times(` -1`, 132)+` 0-1`)
}

func TestALargeSet(t *testing.T) {
	p := []rune("[^")
	for c := rune(0x400); c < 0x8000; c += 3 {
		p = append(p, c, '-', c+1)
	}
	p = append(p, ']')
	wantMatchFrom(t, string(p), "\u0400\u0401\u0404\u0405", 0, `3-4`)
	wantMatchFrom(t, string(p), "\u0400\u0401\u0403\u0404", 0, `no`)
}

// 8.1, 8.2: long lines

func TestLongLines(t *testing.T) {
	n := api.MaxRunes
	line := times(`a`, n)
	wantMatchFrom(t, `a*`, line, 0, spanTold(0, n))
	wantMatchFrom(t, `\(a\)*`, line, 0, spanTold(0, n)+" "+spanTold(n-1, n))
	wantMatchFrom(t, `\(a\|b\)*c`, line, 0, `no`)
	wantMatchFrom(t, `\(a*\)*b`, line+`b`, 0, spanTold(0, n+1)+" "+spanTold(0, n))
	wantMatchFrom(t, `$`, line, 0, spanTold(n, n))
	wantMatchFrom(t, `\(\)$`, line, n, spanTold(n, n)+" "+spanTold(n, n))
	wantMatchFrom(t, `^b`, line, 0, `no`)
	wantMatchFrom(t, `\(a*\)\{9\}`, line, 0, spanTold(0, n)+" "+spanTold(n, n))
	wantAll(t, `a*`, line, spanTold(0, n))
	wantAll(t, `.*b`, line, ``)
	for _, p := range []string{`a`, `\<*`} {
		all := compiled(t, p).All([]rune(line))
		if p == `a` && (len(all) != n || !slices.Equal(all[n-1], []api.Span{{From: n - 1, To: n}})) || p != `a` && len(all) != n+1 {
			t.Errorf("%q has %d matches in a line of %d", p, len(all), n)
		}
	}
}

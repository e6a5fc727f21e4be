package undo_test

import (
	"math"
	"slices"
	"strings"
	"testing"

	"inkhorn/api"
	"inkhorn/undo"
)

// lines tells the lines of a string, one blank between each two; of the string "none", none.
func lines(s string) [][]rune {
	if s == "none" {
		return nil
	}
	var l [][]rune
	for _, line := range strings.Split(s, " ") {
		l = append(l, []rune(line))
	}
	return l
}

// change tells a change of the lines of two strings.
func change(at int, old, new string) api.Change {
	return api.Change{At: at, Old: lines(old), New: lines(new)}
}

// same tells whether two lists of lines are the same.
func same(a, b [][]rune) bool {
	return slices.EqualFunc(a, b, func(l, m []rune) bool { return slices.Equal(l, m) })
}

// sameChange tells whether two changes are the same.
func sameChange(a, b api.Change) bool {
	return a.At == b.At && same(a.Old, b.Old) && same(a.New, b.New)
}

// wantDo fails, if other lines, or another error, are told of a change; or if it changes what it is handed.
func wantDo(t *testing.T, l [][]rune, c api.Change, want [][]rune, e api.Errno) {
	t.Helper()
	ahead, given := deep(l), api.Change{At: c.At, Old: deep(c.Old), New: deep(c.New)}
	got, f := undo.Do(l, c)
	if f != e || !same(got, want) {
		t.Fatalf("Do(%q, %d %q %q) is %q (%d), not %q (%d)", l, c.At, c.Old, c.New, got, f, want, e)
	}
	if !same(l, ahead) || !sameChange(c, given) {
		t.Fatalf("Do(%q, %d %q %q) has changed what it was handed", ahead, given.At, given.Old, given.New)
	}
}

// deep copies lines.
func deep(l [][]rune) [][]rune {
	var own [][]rune
	for _, line := range l {
		own = append(own, slices.Clone(line))
	}
	return own
}

// spoil writes over all runes of lines, and behind the end of each line.
func spoil(l [][]rune) {
	for _, line := range l {
		for i := range line {
			line[i] = '-'
		}
		_ = append(line, '-', '-', '-', '-')
	}
}

// 5.1

func TestTheExampleOfDo(t *testing.T) {
	wantDo(t, lines("a b"), change(1, "b", "x y"), lines("a x y"), api.OK)
}

// someLines are lists of lines with an empty line in each place, and alike ones.
var someLines = []string{"none", "", "a", " ", "a b", "a ", " a", "a a b", "a b  c", "ab a abc a ab"}

func TestDoAndTurnedAtEachPlace(t *testing.T) {
	for _, s := range someLines {
		l := lines(s)
		for at := 0; at <= len(l); at++ {
			for end := at; end <= len(l); end++ {
				for _, with := range someLines {
					c := api.Change{At: at, Old: l[at:end], New: lines(with)}
					want := slices.Concat(l[:at], c.New, l[end:])
					if len(want) == 0 {
						wantDo(t, l, c, nil, api.ErrArg)
						continue
					}
					wantDo(t, l, c, want, api.OK)
					if len(l) > 0 {
						wantDo(t, want, undo.Turned(c), l, api.OK) // 5.4
					}
				}
			}
		}
	}
}

func TestDoThatDoesNotFit(t *testing.T) {
	for _, c := range []api.Change{
		change(-1, "none", "x"), change(-1, "a", "x"), change(5, "none", "x"), change(5, "a", "x"), change(4, "a", "x"), change(4, "", "x"), change(3, "ab ", "x"),
		change(math.MinInt, "none", "x"), change(math.MaxInt, "none", "x"), change(math.MaxInt, "a", "x"), change(math.MaxInt-1, "a b", "x"), change(math.MinInt, "a", "x"),
		change(0, "b", "x"), change(0, "", "x"), change(0, "A", "x"), change(0, "ab", "x"), change(1, "bcd", "x"), change(1, "b", "x"), change(1, "bd", "x"), change(2, "a", "x"), change(3, "a", "x"), change(3, "abc", "x"),
		change(0, "a bc  x", "x"), change(0, "a x  ab", "x"), change(0, "x bc  ab", "x"), change(0, "bc a", "x"),
		change(0, "a bc  ab c", "x"), change(0, "a bc  ab c", "none"), // nor would a line be left
	} {
		wantDo(t, lines("a bc  ab"), c, nil, api.ErrRange)
	}
}

func TestDoOnNoLines(t *testing.T) {
	wantDo(t, nil, change(0, "none", "x y"), lines("x y"), api.OK)
	wantDo(t, nil, change(0, "none", ""), lines(""), api.OK)
	wantDo(t, nil, change(0, "none", "none"), nil, api.ErrArg)
	wantDo(t, [][]rune{}, api.Change{Old: [][]rune{}, New: [][]rune{}}, nil, api.ErrArg)
	for _, c := range []api.Change{change(1, "none", "x"), change(-1, "none", "x"), change(0, "", "x"), change(0, "a", "none"), change(1, "none", "none")} {
		wantDo(t, nil, c, nil, api.ErrRange)
	}
}

func TestDoThatWouldLeaveNoLine(t *testing.T) {
	for _, s := range someLines {
		wantDo(t, lines(s), change(0, s, "none"), nil, api.ErrArg)
		wantDo(t, lines(s), change(0, s, ""), lines(""), api.OK)
	}
	wantDo(t, lines("a b"), change(0, "a", "none"), lines("b"), api.OK)
	wantDo(t, lines("a b"), change(1, "b", "none"), lines("a"), api.OK)
	wantDo(t, lines("a b"), change(1, "a", "none"), nil, api.ErrRange)
}

func TestAnEmptyLineMayBeNil(t *testing.T) {
	for _, empty := range [][]rune{nil, {}} {
		for _, other := range [][]rune{nil, {}} {
			c := api.Change{At: 1, Old: [][]rune{empty}, New: [][]rune{other, []rune("x"), empty}}
			wantDo(t, [][]rune{[]rune("a"), other}, c, lines("a  x "), api.OK)
		}
	}
}

func TestDoOfAnyRunes(t *testing.T) {
	odd := []rune{0, 10, -1, math.MinInt32, math.MaxInt32, 0xD800, 0x110000, 0x301}
	for i := range odd {
		l := [][]rune{odd, odd[i:]}
		wantDo(t, l, api.Change{At: 1, Old: l[1:], New: [][]rune{odd[:i], odd}}, [][]rune{odd, odd[:i], odd}, api.OK)
		other := slices.Clone(odd)
		other[i]++
		wantDo(t, l, api.Change{Old: [][]rune{other}}, nil, api.ErrRange)
	}
}

func TestDoOfManyLines(t *testing.T) {
	l, with := make([][]rune, 100000), make([][]rune, 100000)
	for i := range with {
		with[i] = []rune{rune(i)}
	}
	wantDo(t, l, api.Change{At: 1, Old: l[1:], New: with}, slices.Concat(l[:1], with), api.OK)
	with[0] = make([]rune, 1000000)
	wantDo(t, with, api.Change{At: 0, Old: with[:99999]}, with[99999:], api.OK)
}

func TestTurned(t *testing.T) {
	for _, at := range []int{0, 1, 7, -1, math.MinInt, math.MaxInt} {
		for _, old := range someLines {
			for _, new := range someLines {
				c := change(at, old, new)
				if got := undo.Turned(c); !sameChange(got, change(at, new, old)) {
					t.Fatalf("turned, %d %q %q is %d %q %q", at, c.Old, c.New, got.At, got.Old, got.New)
				}
				if got := undo.Turned(undo.Turned(c)); !sameChange(got, c) || !sameChange(c, change(at, old, new)) {
					t.Fatalf("turned twice, %d %q %q is %d %q %q", at, c.Old, c.New, got.At, got.Old, got.New)
				}
			}
		}
	}
}

func TestWhatDoTellsIsNew(t *testing.T) {
	twice := []rune("xy")
	l, with := lines("ab cd ef ??"), [][]rune{twice[:1], twice[:1], twice[:0], []rune("?")}
	c := api.Change{At: 1, Old: l[1:2], New: with[:3]}
	got, e := undo.Do(l[:3], c)
	if e != api.OK || !same(got, lines("ab x x  ef")) {
		t.Fatalf("Do is %q (%d)", got, e)
	}
	for i := range got {
		spoil(got[i : i+1])
		if i+1 < len(got) && !same(got[i+1:], lines("ab x x  ef")[i+1:]) {
			t.Fatalf("lines of one answer share memory: %q", got)
		}
	}
	for i := range got {
		got[i] = nil
	}
	_ = append(got, twice)
	if !same(l, lines("ab cd ef ??")) || string(twice) != "xy" || string(with[3]) != "?" {
		t.Fatalf("what was handed in is now %q, %q, %q", l, string(twice), string(with[3]))
	}
	got, _ = undo.Do(l[:3], c)
	spoil(l)
	spoil([][]rune{twice})
	if !same(got, lines("ab x x  ef")) {
		t.Fatalf("the answer shares memory with what was handed in: %q", got)
	}
}

func TestWhatTurnedTellsIsNew(t *testing.T) {
	line := []rune("ab")
	c := api.Change{At: 1, Old: [][]rune{line, line[:1], []rune("o")}[:2], New: [][]rune{line, line, []rune("n")}[:2]}
	got := undo.Turned(c)
	spoil(got.Old[:1])
	if !same(got.Old[1:], lines("ab")) || !same(got.New, lines("ab a")) {
		t.Fatalf("lines of one answer share memory: %q, %q", got.Old, got.New)
	}
	spoil(got.New)
	got.Old[0], got.New[0] = nil, nil
	_, _ = append(got.Old, line), append(got.New, line)
	if string(line) != "ab" || !same(c.Old[:3], lines("ab a o")) || !same(c.New[:3], lines("ab ab n")) {
		t.Fatalf("what was handed in is now %q: %q, %q", string(line), c.Old[:3], c.New[:3])
	}
	got = undo.Turned(c)
	spoil([][]rune{line})
	c.Old[0], c.New[0] = nil, nil
	if !sameChange(got, change(1, "ab ab", "ab a")) {
		t.Fatalf("the answer shares memory with what was handed in: %q, %q", got.Old, got.New)
	}
}

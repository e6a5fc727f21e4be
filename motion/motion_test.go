package motion_test

import (
	"math"
	"strconv"
	"strings"
	"testing"

	"inkhorn/api"
	"inkhorn/motion"
	"inkhorn/word"
)

// lines tells the lines of a string, a line end between each two.
func lines(s string) [][]rune {
	var l [][]rune
	for _, line := range strings.Split(s, "\n") {
		l = append(l, []rune(line))
	}
	return l
}

// at tells a place.
func at(line, col int) api.Pos {
	return api.Pos{Line: line, Col: col}
}

// allKeys are the keys of the table; each of them but those four needs no rune behind it.
const allKeys = "hljk+-_Gg0^$|wWbBeEfFtT%}{)("

// answer is what Move tells.
type answer struct {
	p   api.Pos
	how int
	ok  bool
}

// move tells what Move does.
func move(l [][]rune, p api.Pos, m api.Motion, op bool) answer {
	q, how, ok := motion.Move(l, p, m, op)
	return answer{q, how, ok}
}

// no tells the answer where a motion can't be done.
func no(p api.Pos) answer {
	return answer{p, 0, false}
}

// typed tells a motion as keys say it: a count, if there is one, the key, the rune behind it; and whether a d stands ahead of them. No column is wanted.
func typed(keys string) (api.Motion, bool) {
	rest, op := strings.CutPrefix(keys, "d")
	m := api.Motion{Want: -1}
	for rest[0] >= '1' && rest[0] <= '9' || m.Count > 0 && rest[0] == '0' {
		m.Count = 10*m.Count + int(rest[0]-'0')
		rest = rest[1:]
	}
	r := append([]rune(rest), 0)
	m.Key, m.Arg = r[0], r[1]
	return m, op
}

// lead is from where keys lead, and how it is told: by the place, and by what kind it is; "no", if they can't be done.
type lead struct {
	p          api.Pos
	keys, want string
}

// told tells an answer as text. (Beside a false the place asked from stands, and nothing else.)
func told(p api.Pos, a answer) string {
	place := strconv.Itoa(a.p.Line) + ":" + strconv.Itoa(a.p.Col)
	switch {
	case a == no(p):
		return "no"
	case a.ok && a.how == api.MoveBefore:
		return place + " before"
	case a.ok && a.how == api.MoveOn:
		return place + " on"
	case a.ok && a.how == api.MoveLine:
		return place + " lines"
	}
	return place + " by " + strconv.Itoa(a.how) + ", can be done: " + strconv.FormatBool(a.ok)
}

// wantLeads fails, if keys lead elsewhere in a text.
func wantLeads(t *testing.T, s string, leads []lead) {
	t.Helper()
	l := lines(s)
	for _, w := range leads {
		m, op := typed(w.keys)
		if got := told(w.p, move(l, w.p, m, op)); got != w.want {
			t.Errorf("%s of %q from %v: %s, not %s", w.keys, s, w.p, got, w.want)
		}
	}
}

// 10.1: the chapter's examples

func TestTheExamples(t *testing.T) {
	wantLeads(t, "abc", []lead{{at(0, 0), "2l", "0:2 before"}, {at(0, 0), "9l", "0:2 before"}, {at(0, 0), "d9l", "0:3 before"}, {at(0, 0), "fc", "0:2 on"}})
	wantLeads(t, "a(b)c", []lead{{at(0, 0), "%", "0:3 on"}})
	wantLeads(t, "ab\ncd", []lead{{at(0, 0), "dw", "0:2 before"}})
}

// 10.1: row by row

func TestLeftAndRight(t *testing.T) {
	wantLeads(t, "abcde\n\nx\n \t ", []lead{
		{at(0, 4), "h", "0:3 before"}, {at(0, 4), "2h", "0:2 before"}, {at(0, 4), "4h", "0:0 before"}, {at(0, 4), "5h", "0:0 before"}, {at(0, 1), "99h", "0:0 before"},
		{at(0, 0), "h", "no"}, {at(0, 0), "9h", "no"}, {at(1, 0), "h", "no"}, {at(2, 0), "h", "no"}, {at(3, 2), "h", "3:1 before"},
		{at(0, 4), "d2h", "0:2 before"}, {at(0, 2), "d9h", "0:0 before"}, {at(0, 0), "dh", "no"}, {at(1, 0), "dh", "no"},
		{at(0, 0), "l", "0:1 before"}, {at(0, 0), "3l", "0:3 before"}, {at(0, 0), "4l", "0:4 before"}, {at(0, 0), "5l", "0:4 before"}, {at(0, 3), "99l", "0:4 before"},
		{at(0, 4), "l", "no"}, {at(0, 4), "9l", "no"}, {at(1, 0), "l", "no"}, {at(2, 0), "l", "no"}, {at(3, 0), "9l", "3:2 before"},
		{at(0, 0), "dl", "0:1 before"}, {at(0, 0), "d4l", "0:4 before"}, {at(0, 0), "d5l", "0:5 before"}, {at(0, 0), "d6l", "0:5 before"}, {at(0, 4), "dl", "0:5 before"}, {at(0, 4), "d9l", "0:5 before"},
		{at(1, 0), "dl", "no"}, {at(1, 0), "d9l", "no"}, {at(2, 0), "dl", "2:1 before"}, {at(3, 2), "dl", "3:3 before"},
	})
}

func TestLinesDownAndUp(t *testing.T) {
	wantLeads(t, "abcd\nxy\n\nefghi", []lead{
		{at(0, 3), "j", "1:1 lines"}, {at(0, 0), "j", "1:0 lines"}, {at(0, 3), "2j", "2:0 lines"}, {at(0, 3), "3j", "3:3 lines"}, {at(0, 3), "dj", "1:1 lines"}, {at(2, 0), "j", "3:0 lines"},
		{at(0, 3), "4j", "no"}, {at(0, 0), "99j", "no"}, {at(3, 0), "j", "no"}, {at(3, 4), "dj", "no"}, {at(1, 1), "2j", "3:1 lines"}, {at(1, 1), "3j", "no"}, {at(1, 1), "d3j", "no"},
		{at(3, 4), "k", "2:0 lines"}, {at(3, 4), "2k", "1:1 lines"}, {at(3, 4), "3k", "0:3 lines"}, {at(3, 2), "3k", "0:2 lines"}, {at(3, 4), "dk", "2:0 lines"},
		{at(3, 4), "4k", "no"}, {at(3, 4), "99k", "no"}, {at(0, 2), "k", "no"}, {at(0, 0), "dk", "no"}, {at(1, 0), "k", "0:0 lines"}, {at(1, 0), "2k", "no"}, {at(1, 0), "d2k", "no"},
	})
}

func TestTheColumnThatIsWanted(t *testing.T) {
	l := lines("abcd\nxy\n\nefghi")
	for _, w := range []struct {
		p     api.Pos
		key   rune
		count int
		want  int
		to    api.Pos
	}{
		{at(0, 1), 'j', 1, 0, at(1, 0)}, {at(0, 1), 'j', 1, 1, at(1, 1)}, {at(0, 0), 'j', 1, 2, at(1, 1)}, {at(0, 0), 'j', 3, 4, at(3, 4)}, {at(0, 0), 'j', 3, 5, at(3, 4)}, {at(0, 0), 'j', 3, 1 << 30, at(3, 4)},
		{at(0, 2), 'j', 3, math.MaxInt, at(3, 4)}, {at(0, 2), 'j', 3, -1, at(3, 2)}, {at(0, 2), 'j', 3, -2, at(3, 2)}, {at(0, 2), 'j', 3, math.MinInt, at(3, 2)}, {at(0, 2), 'j', 2, 9, at(2, 0)},
		{at(3, 1), 'k', 3, 0, at(0, 0)}, {at(3, 1), 'k', 3, 2, at(0, 2)}, {at(3, 1), 'k', 3, 3, at(0, 3)}, {at(3, 1), 'k', 3, 4, at(0, 3)}, {at(3, 4), 'k', 3, 1, at(0, 1)},
		{at(3, 1), 'k', 3, math.MaxInt, at(0, 3)}, {at(3, 1), 'k', 3, -1, at(0, 1)}, {at(3, 1), 'k', 3, math.MinInt, at(0, 1)}, {at(3, 4), 'k', 1, 9, at(2, 0)},
	} {
		m := api.Motion{Key: w.key, Count: w.count, Want: w.want}
		for _, op := range []bool{false, true} {
			if got, want := move(l, w.p, m, op), (answer{w.to, api.MoveLine, true}); got != want {
				t.Errorf("%v from %v: %v, not %v", m, w.p, got, want)
			}
		}
	}
	for _, want := range []int{math.MinInt, -1, 0, 3, math.MaxInt} {
		for _, m := range []api.Motion{{Key: 'j', Count: 3, Want: want}, {Key: 'k', Count: 2, Want: want}} {
			if got := move(l, at(1, 1), m, false); got != no(at(1, 1)) {
				t.Errorf("%v from line 1: %v", m, got)
			}
		}
	}
}

func TestOnlyJAndKAskForTheColumnAndOnlyFindsForTheRune(t *testing.T) {
	l := lines(" a(b) cb\n\n  x. Y\nab)")
	for _, key := range allKeys {
		for line := range l {
			p, m := at(line, 2), api.Motion{Key: key, Want: -1}
			plain := move(l, p, m, false)
			if m.Want = 1; key != 'j' && key != 'k' && move(l, p, m, false) != plain {
				t.Errorf("%c from %v hangs on the column that is wanted", key, p)
			}
			if m.Want, m.Arg = -1, 'b'; !strings.ContainsRune("fFtT", key) && move(l, p, m, false) != plain {
				t.Errorf("%c from %v hangs on the rune behind it", key, p)
			}
		}
	}
}

func TestLinesByTheirFirstRune(t *testing.T) {
	wantLeads(t, "ab c\n  \tde\n\n   \nf", []lead{
		{at(0, 3), "+", "1:3 lines"}, {at(0, 3), "2+", "2:0 lines"}, {at(0, 3), "3+", "3:2 lines"}, {at(0, 3), "4+", "4:0 lines"}, {at(0, 3), "d+", "1:3 lines"},
		{at(0, 3), "5+", "no"}, {at(0, 3), "99+", "no"}, {at(4, 0), "+", "no"}, {at(4, 0), "d+", "no"}, {at(2, 0), "2+", "4:0 lines"}, {at(2, 0), "3+", "no"}, {at(3, 0), "+", "4:0 lines"},
		{at(4, 0), "-", "3:2 lines"}, {at(4, 0), "2-", "2:0 lines"}, {at(4, 0), "3-", "1:3 lines"}, {at(4, 0), "4-", "0:0 lines"}, {at(4, 0), "d-", "3:2 lines"},
		{at(4, 0), "5-", "no"}, {at(4, 0), "99-", "no"}, {at(0, 2), "-", "no"}, {at(0, 2), "d-", "no"}, {at(1, 0), "-", "0:0 lines"}, {at(1, 1), "2-", "no"},
		{at(0, 3), "_", "0:0 lines"}, {at(1, 0), "_", "1:3 lines"}, {at(1, 4), "_", "1:3 lines"}, {at(0, 3), "2_", "1:3 lines"}, {at(0, 3), "3_", "2:0 lines"}, {at(0, 3), "d4_", "3:2 lines"}, {at(3, 0), "_", "3:2 lines"}, {at(2, 0), "_", "2:0 lines"},
		{at(0, 3), "5_", "4:0 lines"}, {at(0, 3), "6_", "no"}, {at(0, 3), "99_", "no"}, {at(4, 0), "_", "4:0 lines"}, {at(4, 0), "2_", "no"}, {at(4, 0), "d2_", "no"},
	})
}

func TestLinesByTheirNumbers(t *testing.T) {
	wantLeads(t, "ab c\n  de\n\n   \n\t f", []lead{
		{at(0, 3), "G", "4:2 lines"}, {at(4, 0), "G", "4:2 lines"}, {at(2, 0), "dG", "4:2 lines"},
		{at(0, 3), "1G", "0:0 lines"}, {at(3, 1), "2G", "1:2 lines"}, {at(3, 1), "3G", "2:0 lines"}, {at(0, 0), "4G", "3:2 lines"}, {at(0, 0), "5G", "4:2 lines"}, {at(0, 0), "6G", "4:2 lines"}, {at(0, 0), "99G", "4:2 lines"}, {at(4, 0), "d2G", "1:2 lines"},
		{at(4, 0), "g", "0:0 lines"}, {at(0, 3), "g", "0:0 lines"}, {at(3, 1), "1g", "0:0 lines"}, {at(3, 1), "2g", "1:2 lines"}, {at(0, 0), "4g", "3:2 lines"}, {at(0, 0), "5g", "4:2 lines"}, {at(0, 0), "6g", "4:2 lines"}, {at(0, 0), "99g", "4:2 lines"}, {at(4, 0), "dg", "0:0 lines"},
	})
}

func TestPlacesOfALine(t *testing.T) {
	wantLeads(t, "  ab c\n\n \t \nd", []lead{
		{at(0, 5), "0", "0:0 before"}, {at(0, 0), "0", "0:0 before"}, {at(1, 0), "0", "1:0 before"}, {at(2, 2), "0", "2:0 before"}, {at(0, 4), "d0", "0:0 before"},
		{at(0, 5), "^", "0:2 before"}, {at(0, 0), "^", "0:2 before"}, {at(0, 2), "^", "0:2 before"}, {at(1, 0), "^", "1:0 before"}, {at(2, 0), "^", "2:2 before"}, {at(2, 2), "^", "2:2 before"}, {at(3, 0), "^", "3:0 before"}, {at(0, 5), "d^", "0:2 before"}, {at(0, 5), "3^", "0:2 before"},
		{at(0, 0), "$", "0:5 on"}, {at(0, 5), "$", "0:5 on"}, {at(0, 3), "d$", "0:5 on"}, {at(1, 0), "$", "1:0 on"}, {at(2, 0), "$", "2:2 on"}, {at(3, 0), "$", "3:0 on"},
		{at(0, 3), "1$", "0:5 on"}, {at(0, 3), "2$", "1:0 on"}, {at(0, 3), "3$", "2:2 on"}, {at(0, 3), "d4$", "3:0 on"}, {at(0, 3), "5$", "no"}, {at(0, 3), "99$", "no"}, {at(3, 0), "2$", "no"}, {at(3, 0), "d2$", "no"},
		{at(0, 5), "|", "0:0 before"}, {at(0, 5), "1|", "0:0 before"}, {at(0, 0), "2|", "0:1 before"}, {at(0, 0), "6|", "0:5 before"}, {at(0, 0), "7|", "0:5 before"}, {at(0, 0), "99|", "0:5 before"}, {at(0, 3), "4|", "0:3 before"},
		{at(1, 0), "|", "1:0 before"}, {at(1, 0), "9|", "1:0 before"}, {at(2, 0), "9|", "2:2 before"}, {at(0, 0), "d9|", "0:5 before"}, {at(0, 4), "d2|", "0:1 before"},
	})
}

func TestWords(t *testing.T) {
	wantLeads(t, "ab.c d\n\n  ef g", []lead{
		{at(0, 0), "w", "0:2 before"}, {at(0, 0), "2w", "0:3 before"}, {at(0, 0), "3w", "0:5 before"}, {at(0, 0), "4w", "1:0 before"}, {at(0, 0), "5w", "2:2 before"}, {at(0, 0), "6w", "2:5 before"}, {at(0, 0), "7w", "2:5 before"}, {at(0, 0), "99w", "2:5 before"},
		{at(2, 2), "w", "2:5 before"}, {at(2, 5), "w", "no"}, {at(2, 5), "9w", "no"}, {at(2, 3), "9w", "2:5 before"},
		{at(0, 0), "W", "0:5 before"}, {at(0, 0), "2W", "1:0 before"}, {at(0, 0), "3W", "2:2 before"}, {at(0, 0), "99W", "2:5 before"}, {at(2, 5), "W", "no"},
		{at(2, 5), "b", "2:2 before"}, {at(2, 5), "2b", "1:0 before"}, {at(2, 5), "3b", "0:5 before"}, {at(2, 5), "4b", "0:3 before"}, {at(2, 5), "6b", "0:0 before"}, {at(2, 5), "7b", "0:0 before"}, {at(2, 5), "99b", "0:0 before"},
		{at(0, 1), "b", "0:0 before"}, {at(0, 1), "9b", "0:0 before"}, {at(0, 0), "b", "no"}, {at(0, 0), "9b", "no"}, {at(2, 2), "db", "1:0 before"}, {at(1, 0), "db", "0:5 before"}, {at(0, 0), "db", "no"},
		{at(2, 5), "3B", "0:5 before"}, {at(2, 5), "4B", "0:0 before"}, {at(2, 5), "9B", "0:0 before"}, {at(0, 0), "B", "no"}, {at(0, 3), "dB", "0:0 before"},
		{at(0, 0), "e", "0:1 on"}, {at(0, 0), "2e", "0:2 on"}, {at(0, 0), "4e", "0:5 on"}, {at(0, 0), "5e", "2:3 on"}, {at(0, 0), "6e", "2:5 on"}, {at(0, 0), "7e", "2:5 on"}, {at(0, 0), "99e", "2:5 on"}, {at(2, 5), "e", "no"}, {at(2, 5), "9e", "no"},
		{at(0, 5), "de", "2:3 on"}, {at(2, 4), "de", "2:5 on"}, {at(2, 5), "de", "no"},
		{at(0, 0), "E", "0:3 on"}, {at(0, 0), "2E", "0:5 on"}, {at(0, 0), "99E", "2:5 on"}, {at(2, 5), "E", "no"}, {at(0, 1), "dE", "0:3 on"},
	})
	wantLeads(t, " \n \t ", []lead{
		{at(0, 0), "w", "1:2 before"}, {at(1, 0), "w", "1:2 before"}, {at(1, 2), "w", "no"}, {at(1, 2), "W", "no"}, {at(1, 2), "b", "0:0 before"}, {at(0, 0), "b", "no"}, {at(0, 0), "e", "1:2 on"}, {at(1, 2), "E", "no"},
		{at(0, 0), "dw", "0:1 before"}, {at(1, 0), "dw", "1:2 before"}, {at(1, 2), "dw", "no"}, {at(1, 2), "db", "0:0 before"}, {at(0, 0), "de", "1:2 on"},
	})
}

func TestWordsWithAnOperator(t *testing.T) {
	wantLeads(t, "ab.c d\n\n  ef g\n\n", []lead{
		{at(0, 0), "dw", "0:2 before"}, {at(0, 0), "d2w", "0:3 before"}, {at(0, 0), "d3w", "0:5 before"},
		{at(0, 0), "d4w", "0:6 before"}, {at(0, 5), "dw", "0:6 before"}, {at(0, 4), "dw", "0:5 before"}, {at(0, 4), "d2w", "0:6 before"},
		{at(0, 0), "d5w", "1:0 before"}, {at(0, 5), "d2w", "1:0 before"}, {at(1, 0), "dw", "1:0 before"},
		{at(0, 5), "d3w", "2:5 before"}, {at(1, 0), "d2w", "2:5 before"}, {at(2, 0), "dw", "2:2 before"},
		{at(2, 2), "d2w", "2:6 before"}, {at(2, 2), "d3w", "3:0 before"}, {at(2, 2), "d9w", "3:0 before"}, {at(3, 0), "dw", "3:0 before"}, {at(3, 0), "d9w", "3:0 before"}, {at(4, 0), "dw", "no"}, {at(4, 0), "d9w", "no"},
		{at(0, 0), "dW", "0:5 before"}, {at(0, 0), "d2W", "0:6 before"}, {at(0, 0), "d3W", "1:0 before"}, {at(0, 0), "d4W", "2:5 before"}, {at(2, 5), "dW", "2:6 before"}, {at(4, 0), "dW", "no"},
	})
	wantLeads(t, "ab cd", []lead{
		{at(0, 0), "d2w", "0:4 before"}, {at(0, 3), "dw", "0:4 before"}, {at(0, 3), "d9w", "0:4 before"}, {at(0, 4), "dw", "no"}, {at(0, 3), "dW", "0:4 before"}, {at(0, 4), "d9W", "no"},
	})
	wantLeads(t, "ab\n   ", []lead{
		{at(0, 0), "dw", "0:2 before"}, {at(0, 0), "d2w", "0:2 before"}, {at(0, 0), "2w", "1:2 before"}, {at(1, 0), "dw", "1:2 before"},
	})
}

func TestFinds(t *testing.T) {
	wantLeads(t, "abcabca\nxa", []lead{
		{at(0, 0), "fa", "0:3 on"}, {at(0, 0), "1fa", "0:3 on"}, {at(0, 0), "2fa", "0:6 on"}, {at(0, 0), "3fa", "no"}, {at(0, 0), "99fa", "no"}, {at(0, 0), "fb", "0:1 on"}, {at(0, 0), "fx", "no"}, {at(0, 6), "fa", "no"}, {at(0, 5), "fa", "0:6 on"}, {at(0, 3), "dfa", "0:6 on"}, {at(0, 3), "df,", "no"},
		{at(0, 6), "Fa", "0:3 before"}, {at(0, 6), "2Fa", "0:0 before"}, {at(0, 6), "3Fa", "no"}, {at(0, 6), "99Fa", "no"}, {at(0, 6), "Fc", "0:5 before"}, {at(0, 6), "Fx", "no"}, {at(0, 0), "Fa", "no"}, {at(0, 1), "Fa", "0:0 before"}, {at(0, 3), "dFa", "0:0 before"}, {at(0, 3), "dF.", "no"},
		{at(0, 0), "ta", "0:2 on"}, {at(0, 0), "2ta", "0:5 on"}, {at(0, 0), "3ta", "no"}, {at(0, 0), "tb", "0:0 on"}, {at(0, 5), "ta", "0:5 on"}, {at(0, 5), "2ta", "no"}, {at(0, 6), "ta", "no"}, {at(0, 0), "tx", "no"}, {at(0, 0), "dtb", "0:0 on"}, {at(0, 1), "dtc", "0:1 on"}, {at(0, 1), "2tc", "0:4 on"},
		{at(0, 6), "Ta", "0:4 before"}, {at(0, 6), "2Ta", "0:1 before"}, {at(0, 6), "3Ta", "no"}, {at(0, 6), "Tc", "0:6 before"}, {at(0, 1), "Ta", "0:1 before"}, {at(0, 1), "2Ta", "no"}, {at(0, 0), "Ta", "no"}, {at(0, 0), "Tx", "no"}, {at(0, 6), "dTc", "0:6 before"}, {at(0, 6), "dTb", "0:5 before"},
		{at(1, 0), "fa", "1:1 on"}, {at(1, 0), "fb", "no"}, {at(1, 1), "Fx", "1:0 before"}, {at(1, 1), "Fa", "no"}, {at(1, 1), "fx", "no"},
	})
	wantLeads(t, "\n \t ", []lead{
		{at(0, 0), "f ", "no"}, {at(0, 0), "F ", "no"}, {at(0, 0), "t ", "no"}, {at(0, 0), "T ", "no"},
		{at(1, 0), "f ", "1:2 on"}, {at(1, 0), "f\t", "1:1 on"}, {at(1, 2), "F ", "1:0 before"}, {at(1, 2), "T\t", "1:2 before"},
	})
}

func TestFindsOfAnyRune(t *testing.T) {
	l := [][]rune{{'a', 0, -1, 0x4E2D, 10, math.MinInt32, 0xD800, 0xFFFD, math.MaxInt32, 'a'}}
	for col := 1; col < 9; col++ {
		for _, w := range []struct {
			key  rune
			p    api.Pos
			want answer
		}{
			{'f', at(0, 0), answer{at(0, col), api.MoveOn, true}}, {'F', at(0, 9), answer{at(0, col), api.MoveBefore, true}},
			{'t', at(0, 0), answer{at(0, col-1), api.MoveOn, true}}, {'T', at(0, 9), answer{at(0, col+1), api.MoveBefore, true}},
		} {
			if got := move(l, w.p, api.Motion{Key: w.key, Arg: l[0][col]}, false); got != w.want {
				t.Errorf("%c of the rune %#x: %v, not %v", w.key, l[0][col], got, w.want)
			}
		}
	}
}

func TestPartners(t *testing.T) {
	wantLeads(t, "a(b(c)d)e", []lead{
		{at(0, 0), "%", "0:7 on"}, {at(0, 1), "%", "0:7 on"}, {at(0, 2), "%", "0:5 on"}, {at(0, 3), "%", "0:5 on"}, {at(0, 4), "%", "0:3 on"}, {at(0, 5), "%", "0:3 on"}, {at(0, 6), "%", "0:1 on"}, {at(0, 7), "%", "0:1 on"}, {at(0, 8), "%", "no"},
		{at(0, 0), "5%", "0:7 on"}, {at(0, 0), "d%", "0:7 on"}, {at(0, 7), "d%", "0:1 on"}, {at(0, 8), "d%", "no"},
	})
	wantLeads(t, "([)]{(})", []lead{
		{at(0, 0), "%", "0:2 on"}, {at(0, 1), "%", "0:3 on"}, {at(0, 2), "%", "0:0 on"}, {at(0, 3), "%", "0:1 on"}, {at(0, 4), "%", "0:6 on"}, {at(0, 5), "%", "0:7 on"}, {at(0, 6), "%", "0:4 on"}, {at(0, 7), "%", "0:5 on"},
	})
	wantLeads(t, ")a((b)]", []lead{
		{at(0, 0), "%", "no"}, {at(0, 1), "%", "no"}, {at(0, 2), "%", "no"}, {at(0, 3), "%", "0:5 on"}, {at(0, 4), "%", "0:3 on"}, {at(0, 6), "%", "no"}, {at(0, 0), "d%", "no"}, {at(0, 2), "d%", "no"},
	})
	wantLeads(t, "<a> b\n\n  ", []lead{{at(0, 0), "%", "no"}, {at(0, 2), "%", "no"}, {at(1, 0), "%", "no"}, {at(2, 1), "%", "no"}})
}

func TestPartnersOverLines(t *testing.T) {
	const text = "f(a,\n\n  {b(c)\nd} (\n))e\n[("
	wantLeads(t, text, []lead{
		{at(0, 0), "%", "4:1 on"}, {at(4, 1), "%", "0:1 on"}, {at(4, 0), "%", "3:3 on"}, {at(3, 3), "%", "4:0 on"}, {at(3, 2), "%", "4:0 on"}, {at(3, 0), "%", "2:2 on"}, {at(2, 0), "%", "3:1 on"}, {at(2, 3), "%", "2:6 on"},
		{at(0, 2), "%", "no"}, {at(1, 0), "%", "no"}, {at(4, 2), "%", "no"}, {at(5, 0), "%", "no"}, {at(5, 1), "%", "no"}, {at(0, 1), "d%", "4:1 on"}, {at(4, 1), "d%", "0:1 on"},
	})
	wantLeads(t, "\n)\n\n(\n", []lead{{at(1, 0), "%", "no"}, {at(3, 0), "%", "no"}})
	wantLeads(t, "(\n\n\n)", []lead{{at(0, 0), "%", "3:0 on"}, {at(3, 0), "%", "0:0 on"}, {at(1, 0), "%", "no"}})
	wantLeads(t, "a {b\n}}\nc }", []lead{{at(0, 0), "%", "1:0 on"}, {at(1, 0), "%", "0:2 on"}, {at(1, 1), "%", "no"}, {at(2, 0), "%", "no"}})
	wantLeads(t, "a ]\n[[b\nc ]", []lead{{at(0, 0), "%", "no"}, {at(1, 0), "%", "no"}, {at(1, 1), "%", "2:2 on"}, {at(2, 0), "%", "1:1 on"}})
}

func TestParagraphs(t *testing.T) {
	wantLeads(t, "ab\nc\n\nd\n\n\nef", []lead{
		{at(0, 1), "}", "2:0 before"}, {at(0, 1), "2}", "4:0 before"}, {at(0, 1), "3}", "6:1 before"}, {at(0, 1), "99}", "6:1 before"}, {at(2, 0), "}", "4:0 before"}, {at(6, 0), "}", "6:1 before"}, {at(6, 1), "}", "no"}, {at(6, 1), "9}", "no"}, {at(1, 0), "d}", "2:0 before"}, {at(6, 1), "d}", "no"},
		{at(6, 1), "{", "5:0 before"}, {at(6, 1), "2{", "2:0 before"}, {at(6, 1), "3{", "0:0 before"}, {at(6, 1), "99{", "0:0 before"}, {at(0, 1), "{", "0:0 before"}, {at(0, 0), "{", "no"}, {at(0, 0), "9{", "no"}, {at(3, 0), "d{", "2:0 before"}, {at(0, 0), "d{", "no"},
	})
}

func TestSentences(t *testing.T) {
	wantLeads(t, "Ab. C\n\nD! ef", []lead{
		{at(0, 1), ")", "0:4 before"}, {at(0, 1), "2)", "1:0 before"}, {at(0, 1), "3)", "2:0 before"}, {at(0, 1), "4)", "2:3 before"}, {at(0, 1), "5)", "2:4 before"}, {at(0, 1), "99)", "2:4 before"}, {at(2, 3), ")", "2:4 before"}, {at(2, 4), ")", "no"}, {at(2, 4), "9)", "no"}, {at(0, 4), "d)", "1:0 before"}, {at(2, 4), "d)", "no"},
		{at(2, 4), "(", "2:3 before"}, {at(2, 4), "2(", "2:0 before"}, {at(2, 4), "3(", "1:0 before"}, {at(2, 4), "5(", "0:0 before"}, {at(2, 4), "99(", "0:0 before"}, {at(0, 1), "(", "0:0 before"}, {at(0, 0), "(", "no"}, {at(0, 0), "9(", "no"}, {at(1, 0), "d(", "0:4 before"}, {at(0, 0), "d(", "no"},
	})
}

// 10.1: no lines, one empty line

func TestNoLines(t *testing.T) {
	for _, l := range [][][]rune{nil, {}} {
		for _, p := range []api.Pos{at(0, 0), at(3, 7), at(-1, -5), at(math.MaxInt, math.MinInt)} {
			for _, key := range allKeys + "x" {
				for _, count := range []int{-1, 0, 1, 9, math.MaxInt} {
					for _, op := range []bool{false, true} {
						if got := move(l, p, api.Motion{Key: key, Count: count, Arg: 'a', Want: 3}, op); got != no(p) {
							t.Errorf("%c of no lines from %v: %v", key, p, got)
						}
					}
				}
			}
		}
	}
}

func TestOneEmptyLine(t *testing.T) {
	for _, l := range [][][]rune{{nil}, {{}}} {
		for _, key := range allKeys {
			want := no(at(0, 0))
			switch {
			case strings.ContainsRune("_Gg", key):
				want = answer{at(0, 0), api.MoveLine, true}
			case strings.ContainsRune("0^|", key):
				want = answer{at(0, 0), api.MoveBefore, true}
			case key == '$':
				want = answer{at(0, 0), api.MoveOn, true}
			}
			for _, op := range []bool{false, true} {
				if got := move(l, at(0, 0), api.Motion{Key: key}, op); got != want {
					t.Errorf("%c of one empty line: %v, not %v", key, got, want)
				}
			}
		}
	}
}

// 10.1: p is clipped first

func TestPlacesAreClippedFirst(t *testing.T) {
	far := []int{math.MinInt, math.MinInt + 1, -1000, -1, 0, 1, 2, 3, 4, 5, 6, 7, 1000, math.MaxInt - 1, math.MaxInt}
	for _, s := range []string{"", " ", "\n", "a(b) ab\n\n  d ab.\n", "A. b\n{C.\n\n\nb}! (e"} {
		l := lines(s)
		for _, line := range far {
			for _, col := range far {
				for _, key := range allKeys + "x" {
					m := api.Motion{Key: key, Arg: 'b', Want: -1}
					for _, op := range []bool{false, true} {
						p := at(line, col)
						if got, want := move(l, p, m, op), move(l, word.Clip(l, p), m, op); got != want {
							t.Errorf("%c of %q from %v: %v, but of where it is clipped %v", key, s, p, got, want)
						}
					}
				}
			}
		}
	}
	l := lines("abc\nde")
	for _, w := range []struct {
		p    api.Pos
		key  rune
		op   bool
		want answer
	}{
		{at(0, 9), 'h', false, answer{at(0, 1), 0, true}}, {at(0, 9), 'l', false, no(at(0, 2))}, {at(0, 3), 'l', true, answer{at(0, 3), 0, true}}, {at(0, -9), 'h', false, no(at(0, 0))}, {at(0, -9), 'l', false, answer{at(0, 1), 0, true}},
		{at(-9, 2), 'j', false, answer{at(1, 1), api.MoveLine, true}}, {at(-9, 2), 'k', false, no(at(0, 2))}, {at(9, 9), 'j', false, no(at(1, 1))}, {at(9, 9), 'k', false, answer{at(0, 1), api.MoveLine, true}},
		{at(9, 0), 'x', false, no(at(1, 0))}, {at(math.MinInt, math.MaxInt), 'x', true, no(at(0, 2))}, {at(math.MaxInt, math.MinInt), '$', true, answer{at(1, 1), api.MoveOn, true}},
	} {
		if got := move(l, w.p, api.Motion{Key: w.key, Want: -1}, w.op); got != w.want {
			t.Errorf("%c from %v: %v, not %v", w.key, w.p, got, w.want)
		}
	}
}

// 10.1: counts

// countText has room for each key around its line 4, rune 5.
const countText = "a b. (c) aa\n\nB (b) ab\n\n  a(aaba) b. C\nx (b) a\n\ny"

func TestCountsBelow1(t *testing.T) {
	l := lines(countText)
	for _, key := range allKeys {
		for _, p := range []api.Pos{at(4, 5), at(0, 0), at(7, 0), at(1, 0)} {
			for _, op := range []bool{false, true} {
				for _, count := range []int{0, -1, -2, -1000, math.MinInt + 1, math.MinInt} {
					m := api.Motion{Key: key, Count: 1, Arg: 'a', Want: -1}
					want := move(l, p, m, op)
					if key == 'G' {
						want = answer{at(7, 0), api.MoveLine, true}
					}
					m.Count = count
					if got := move(l, p, m, op); got != want {
						t.Errorf("%c with count %d from %v: %v, not %v", key, count, p, got, want)
					}
				}
			}
		}
	}
}

func TestCountsLargerThanThereIsRoom(t *testing.T) {
	l, p := lines(countText), at(4, 5)
	for _, w := range []struct {
		key   rune
		plain answer
	}{
		{'h', answer{at(4, 0), 0, true}}, {'l', answer{at(4, 13), 0, true}}, {'j', no(p)}, {'k', no(p)}, {'+', no(p)}, {'-', no(p)}, {'_', no(p)}, {'$', no(p)},
		{'G', answer{at(7, 0), api.MoveLine, true}}, {'g', answer{at(7, 0), api.MoveLine, true}}, {'0', answer{at(4, 0), 0, true}}, {'^', answer{at(4, 2), 0, true}}, {'|', answer{at(4, 13), 0, true}},
		{'w', answer{at(7, 0), 0, true}}, {'W', answer{at(7, 0), 0, true}}, {'b', answer{at(0, 0), 0, true}}, {'B', answer{at(0, 0), 0, true}}, {'e', answer{at(7, 0), api.MoveOn, true}}, {'E', answer{at(7, 0), api.MoveOn, true}},
		{'f', no(p)}, {'F', no(p)}, {'t', no(p)}, {'T', no(p)}, {'%', answer{at(4, 3), api.MoveOn, true}},
		{'}', answer{at(7, 0), 0, true}}, {'{', answer{at(0, 0), 0, true}}, {')', answer{at(7, 0), 0, true}}, {'(', answer{at(0, 0), 0, true}},
	} {
		for _, op := range []bool{false, true} {
			want := w.plain
			switch {
			case op && w.key == 'l':
				want.p = at(4, 14)
			case op && (w.key == 'w' || w.key == 'W'):
				want.p = at(6, 0)
			}
			for _, count := range []int{100, api.MaxCount, 1 << 40, math.MaxInt - 1, math.MaxInt} {
				if got := move(l, p, api.Motion{Key: w.key, Count: count, Arg: 'a', Want: -1}, op); got != want {
					t.Errorf("%c with count %d (operator: %v): %v, not %v", w.key, count, op, got, want)
				}
			}
		}
	}
}

// 10.1: keys that are in no row

func TestOtherKeys(t *testing.T) {
	l := lines(countText)
	for key := rune(-300); key < 0x3000; key++ {
		if key > 0 && strings.ContainsRune(allKeys, key) {
			continue
		}
		for _, op := range []bool{false, true} {
			if got := move(l, at(4, 5), api.Motion{Key: key, Count: 1, Arg: 'a'}, op); got != no(at(4, 5)) {
				t.Errorf("the key %q: %v", key, got)
			}
		}
	}
	for _, key := range []rune{math.MinInt32, 'h' - 1<<8, 'w' + 1<<16, 0xD800, 0xFFFD, 0x10FFFF, math.MaxInt32} {
		if got := move(l, at(9, 9), api.Motion{Key: key}, false); got != no(at(7, 0)) {
			t.Errorf("the key %#x: %v", key, got)
		}
	}
}

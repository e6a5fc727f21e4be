package keys_test

import (
	"math"
	"slices"
	"strings"
	"testing"

	"inkhorn/api"
	"inkhorn/keys"
)

// The keys that have no letter, by their names.
const (
	ctrlD, ctrlE, ctrlI, ctrlL, ctrlO = "\x04", "\x05", "\x09", "\x0c", "\x0f"
	ctrlR, ctrlU, ctrlV, ctrlW, ctrlY = "\x12", "\x15", "\x16", "\x17", "\x19"
	escape                            = "\x1b"
)

// The rune of Esc.
const esc = 27

// What the chapter lists.
const (
	operators     = "dcy<>"
	gOperators    = "~uU"
	shortMotions  = "hljk+-_G0^$|wWbBeE%{}()HML;,nN"
	argMotions    = "ftFT'`"
	objects       = "wWp()b[]{}B<>\"'`"
	normalKeys    = "xXDCYsSJpPiIaAoO.u" + ctrlR + "vV" + ctrlV + "nN;,:/?R~" + ctrlO + ctrlI + ctrlE + ctrlY + ctrlD + ctrlU + ctrlL + escape
	visualKeys    = "oO" + ctrlR + "vV" + ctrlV + "nN;,:/?" + ctrlO + ctrlI + ctrlE + ctrlY + ctrlD + ctrlU + ctrlL + escape
	visualOps     = operators + "~uUxDXsSCYJp"
	firstDigits   = "123456789"
	normalBegins  = firstDigits + `"` + operators + "g" + argMotions + "rmz" + ctrlW
	visualBegins  = firstDigits + `"` + "g" + argMotions + "rmz" + ctrlW + "ia"
	operandBegins = firstDigits + "g" + argMotions + "ia"
)

// free stands for all runes but Esc, where a test says which runes go on.
const free = "free"

// all are runes of all sorts: those of the keyboard, others of one and of more bytes, and numbers that are no characters.
func all() []rune {
	l := []rune{math.MinInt32, -'d', -27, -1, 0x20ac, 0x4e2d, 0xd800, 0xdfff, 0xfffd, 0xffff, 0x1f600, 0x10ffff, 0x110000, math.MaxInt32}
	for r := range rune(0x180) {
		l = append(l, r)
	}
	for r := range rune(0x80) { // those whose last byte, or last two, are a key's
		l = append(l, r+0x100, r+0x10000, r-0x100)
	}
	return l
}

// feed hands a parser runes, and tells the last answer; it fails, if one ahead of the last is not held.
func feed(t *testing.T, p *keys.Parser, l []rune, visual bool) (api.Cmd, int) {
	t.Helper()
	cmd, how := api.Cmd{}, keys.More
	for i, r := range l {
		if how != keys.More {
			t.Fatalf("%q ended at rune %d", l, i-1)
		}
		cmd, how = p.Feed(r, visual)
		if how != keys.Done && cmd != (api.Cmd{}) {
			t.Fatalf("%q is %+v beside %d", l[:i+1], cmd, how)
		}
		if held := p.Held(); how == keys.More && !slices.Equal(held, l[:i+1]) || how != keys.More && len(held) != 0 {
			t.Fatalf("%q is %d, and it holds %q", l[:i+1], how, held)
		}
	}
	return cmd, how
}

// wantCmd fails, if runes are not a command as wanted.
func wantCmd(t *testing.T, l string, visual bool, want api.Cmd) {
	t.Helper()
	wantRunes(t, []rune(l), visual, want)
}

// wantRunes does so of runes that may be no characters.
func wantRunes(t *testing.T, l []rune, visual bool, want api.Cmd) {
	t.Helper()
	if got, how := feed(t, keys.New(), l, visual); how != keys.Done || got != want {
		t.Fatalf("%q, visual %t, is %+v, %d, not %+v", l, visual, got, how, want)
	}
}

// wantHow fails, if the last of some runes is answered otherwise.
func wantHow(t *testing.T, l string, visual bool, want int) {
	t.Helper()
	if _, how := feed(t, keys.New(), []rune(l), visual); how != want {
		t.Fatalf("%q, visual %t, is %d, not %d", l, visual, how, want)
	}
}

// isOne tells whether a rune is one of those that are listed.
func isOne(r rune, listed string) bool {
	if listed == free {
		return r != esc
	}
	return slices.Contains([]rune(listed), r)
}

// wantBehind fails, if behind some runes others go on or end a command than wanted: all others are none.
func wantBehind(t *testing.T, ahead string, visual bool, more, done string) {
	t.Helper()
	for _, r := range all() {
		want := keys.Bad
		switch {
		case isOne(r, more):
			want = keys.More
		case isOne(r, done):
			want = keys.Done
		}
		l := append([]rune(ahead), r)
		if _, how := feed(t, keys.New(), l, visual); how != want {
			t.Errorf("%q, visual %t, is %d, not %d", l, visual, how, want)
		}
	}
}

// modes are both of them: whether it is visual mode.
var modes = []bool{false, true}

// motion is a motion as it is typed, and as it is told.
type motion struct {
	typed string
	cmd   api.Cmd
}

// motions tells all motions: those with a rune behind them with several.
func motions() []motion {
	l := []motion{{"gg", api.Cmd{Pre: 'g', Key: 'g'}}}
	for _, r := range shortMotions {
		l = append(l, motion{string(r), api.Cmd{Key: r}})
	}
	for _, r := range argMotions {
		for _, arg := range "a0" + string(r) + "\x00\n\"中" {
			l = append(l, motion{string(r) + string(arg), api.Cmd{Key: r, Arg: arg}})
		}
	}
	return l
}

// prefix is what may stand ahead of a command, and what it says.
type prefix struct {
	typed string
	reg   rune
	count int
	open  bool // a count that a digit goes on with is its last part
}

// prefixes tells several.
func prefixes() []prefix {
	return []prefix{
		{"", 0, 0, false}, {"2", 0, 2, true}, {"10", 0, 10, true}, {`"a`, 'a', 0, false}, {`""`, '"', 0, false},
		{`"2`, '2', 0, false}, {`"0`, '0', 0, false}, {`2"a`, 'a', 2, false}, {`"a2`, 'a', 2, true}, {`2"a30`, 'a', 60, true},
		{`"a"b`, 'b', 0, false}, {`2"a3"b4"c`, 'c', 24, false},
	}
}

// zero tells what goes on behind a prefix, and what ends a command, if 0 is a digit there, or a motion.
func (x prefix) zero(more, done string) (string, string) {
	if x.open {
		return more + "0", strings.ReplaceAll(done, "0", "")
	}
	return more, done
}

// with tells a command with what a prefix says.
func (x prefix) with(c api.Cmd) api.Cmd {
	c.Reg, c.Count = x.reg, x.count
	return c
}

// The examples of the chapter.
func TestTheExamples(t *testing.T) {
	wantCmd(t, "2d3w", false, api.Cmd{Count: 6, Op: 'd', Key: 'w'})
	wantCmd(t, `"ayy`, false, api.Cmd{Reg: 'a', Op: 'y', Line: true})
	wantCmd(t, "di(", false, api.Cmd{Op: 'd', Pre: 'i', Key: '('})
	wantCmd(t, "gu$", false, api.Cmd{Op: 'u', Key: '$'})
	wantCmd(t, "dd", false, api.Cmd{Op: 'd', Line: true})
	wantHow(t, "dx", false, keys.Bad)
}

// 14.1: New

func TestNewHoldsNothing(t *testing.T) {
	p := keys.New()
	if held := p.Held(); len(held) != 0 {
		t.Fatalf("it holds %q", held)
	}
}

func TestNewIsNobodyElses(t *testing.T) {
	p, other := keys.New(), keys.New()
	p.Feed('2', false)
	p.Feed('d', false)
	if held := other.Held(); len(held) != 0 {
		t.Fatalf("another one holds %q", held)
	}
	if got, how := other.Feed('w', false); how != keys.Done || got != (api.Cmd{Key: 'w'}) {
		t.Fatalf("another one tells %+v, %d", got, how)
	}
	if got, how := p.Feed('w', false); how != keys.Done || got != (api.Cmd{Count: 2, Op: 'd', Key: 'w'}) {
		t.Fatalf("the first one tells %+v, %d", got, how)
	}
}

// 14.1: which runes go on at each place, and which end a command

func TestWhatGoesOnInNormalMode(t *testing.T) {
	for _, x := range prefixes() {
		more, done := x.zero(normalBegins, normalKeys+shortMotions)
		wantBehind(t, x.typed, false, more, done)
	}
	wantBehind(t, "g", false, gOperators, "g")
	for _, r := range argMotions + "rmz" + ctrlW {
		wantBehind(t, string(r), false, "", free)
		wantBehind(t, `3"x`+string(r), false, "", free)
	}
	wantBehind(t, `"`, false, free, "")
	wantBehind(t, `2"`, false, free, "")
}

func TestWhatGoesOnBehindAnOperator(t *testing.T) {
	for _, op := range []string{"d", "c", "y", "<", ">", "g~", "gu", "gU"} {
		own := op[len(op)-1:]
		wantBehind(t, op, false, operandBegins, shortMotions+own)
		wantBehind(t, `2"a`+op, false, operandBegins, shortMotions+own)
		wantBehind(t, op+"2", false, operandBegins+"0", strings.ReplaceAll(shortMotions, "0", "")+own)
		wantBehind(t, op+"20", false, operandBegins+"0", strings.ReplaceAll(shortMotions, "0", "")+own)
		wantBehind(t, op+"g", false, "", "g")
		wantBehind(t, op+"3g", false, "", "g")
		for _, r := range "ia" {
			wantBehind(t, op+string(r), false, "", objects)
			wantBehind(t, op+"3"+string(r), false, "", objects)
		}
		for _, r := range argMotions {
			wantBehind(t, op+string(r), false, "", free)
		}
	}
}

func TestWhatGoesOnInVisualMode(t *testing.T) {
	for _, x := range prefixes() {
		more, done := x.zero(visualBegins, visualKeys+visualOps+shortMotions)
		wantBehind(t, x.typed, true, more, done)
	}
	wantBehind(t, "g", true, "", gOperators+"g")
	wantBehind(t, `"a2g`, true, "", gOperators+"g")
	for _, r := range argMotions + "rmz" + ctrlW {
		wantBehind(t, string(r), true, "", free)
	}
	for _, r := range "ia" {
		wantBehind(t, string(r), true, "", objects)
		wantBehind(t, `"a2`+string(r), true, "", objects)
	}
	wantBehind(t, `"`, true, free, "")
}

// 14.1: the commands of normal mode

func TestKeysOfNormalMode(t *testing.T) {
	for _, x := range prefixes() {
		for _, r := range normalKeys {
			wantCmd(t, x.typed+string(r), false, x.with(api.Cmd{Key: r}))
		}
	}
}

func TestMotions(t *testing.T) {
	for _, visual := range modes {
		for _, x := range prefixes() {
			for _, m := range motions() {
				if m.typed == "0" && x.open {
					continue
				}
				wantCmd(t, x.typed+m.typed, visual, x.with(m.cmd))
			}
		}
	}
}

func TestOperatorsWithMotions(t *testing.T) {
	for _, x := range prefixes() {
		for _, op := range operators + gOperators {
			typed := x.typed + string(op)
			if isOne(op, gOperators) {
				typed = x.typed + "g" + string(op)
			}
			for _, m := range motions() {
				c := x.with(m.cmd)
				c.Op = op
				wantCmd(t, typed+m.typed, false, c)
				if m.typed == "0" {
					continue
				}
				c.Count = 7 * max(c.Count, 1)
				wantCmd(t, typed+"7"+m.typed, false, c)
			}
		}
	}
}

func TestOperatorsWithObjects(t *testing.T) {
	for _, x := range prefixes() {
		for _, op := range operators + gOperators {
			typed := x.typed + string(op)
			if isOne(op, gOperators) {
				typed = x.typed + "g" + string(op)
			}
			for _, pre := range "ia" {
				for _, key := range objects {
					c := x.with(api.Cmd{Op: op, Pre: pre, Key: key})
					wantCmd(t, typed+string(pre)+string(key), false, c)
					c.Count = 3 * max(c.Count, 1)
					wantCmd(t, typed+"3"+string(pre)+string(key), false, c)
				}
			}
		}
	}
}

func TestAnOperatorBehindItself(t *testing.T) {
	for _, x := range prefixes() {
		for _, op := range operators {
			wantCmd(t, x.typed+string(op)+string(op), false, x.with(api.Cmd{Op: op, Line: true}))
		}
		for _, op := range gOperators {
			wantCmd(t, x.typed+"g"+string(op)+string(op), false, x.with(api.Cmd{Op: op, Line: true}))
		}
	}
	wantCmd(t, "2d3d", false, api.Cmd{Count: 6, Op: 'd', Line: true})
	wantCmd(t, `"ag~5~`, false, api.Cmd{Reg: 'a', Count: 5, Op: '~', Line: true})
	for _, op := range gOperators { // behind g it isn't the operator any more: g there is a motion's
		wantHow(t, "g"+string(op)+"g"+string(op), false, keys.Bad)
		wantCmd(t, "g"+string(op)+"gg", false, api.Cmd{Op: op, Pre: 'g', Key: 'g'})
	}
}

func TestAnOperatorBehindAnotherOne(t *testing.T) {
	for _, one := range operators + gOperators {
		for _, other := range operators + gOperators {
			if one == other {
				continue
			}
			typed := string(one)
			if isOne(one, gOperators) {
				typed = "g" + typed
			}
			wantHow(t, typed+string(other), false, keys.Bad)
			wantHow(t, typed+"2"+string(other), false, keys.Bad)
			wantHow(t, typed+"g"+string(other), false, keys.Bad)
		}
	}
}

func TestARegisterBehindAnOperator(t *testing.T) {
	for _, typed := range []string{`d"`, `y2"`, `gu"`, `<"`} {
		wantHow(t, typed, false, keys.Bad)
	}
}

// 14.1: runes that any rune may be

func TestAnyRuneWhereOneIsWanted(t *testing.T) {
	for _, visual := range modes {
		for _, r := range all() {
			if r == esc {
				continue
			}
			wantRunes(t, []rune{'"', r, 'j'}, visual, api.Cmd{Reg: r, Key: 'j'})
			wantRunes(t, []rune{'z', r}, visual, api.Cmd{Pre: 'z', Key: r})
			wantRunes(t, []rune{'2', 23, r}, visual, api.Cmd{Count: 2, Pre: 23, Key: r})
			wantRunes(t, []rune{'m', r}, visual, api.Cmd{Key: 'm', Arg: r})
			for _, key := range argMotions {
				wantRunes(t, []rune{key, r}, visual, api.Cmd{Key: key, Arg: r})
			}
		}
	}
	for _, r := range all() {
		if r == esc {
			continue
		}
		wantRunes(t, []rune{'r', r}, false, api.Cmd{Key: 'r', Arg: r})
		wantRunes(t, []rune{'r', r}, true, api.Cmd{Op: 'r', Arg: r})
		for _, key := range argMotions {
			wantRunes(t, []rune{'d', key, r}, false, api.Cmd{Op: 'd', Key: key, Arg: r})
		}
	}
}

func TestEsc(t *testing.T) {
	for _, visual := range modes {
		for _, x := range prefixes() {
			wantCmd(t, x.typed+escape, visual, x.with(api.Cmd{Key: esc}))
			for _, typed := range []string{`"`, "f", "t", "F", "T", "r", "m", "'", "`", "z", ctrlW, "g"} {
				wantHow(t, x.typed+typed+escape, visual, keys.Bad)
			}
		}
	}
	for _, op := range []string{"d", "c", "y", "<", ">", "g~", "gu", "gU"} {
		for _, behind := range []string{"", "2", "20", "i", "a", "g", "f", "T", "'", "`"} {
			wantHow(t, op+behind+escape, false, keys.Bad)
		}
	}
	wantHow(t, "i"+escape, true, keys.Bad)
	wantHow(t, "a"+escape, true, keys.Bad)
}

// 14.1: counts

func TestCounts(t *testing.T) {
	const most = api.MaxCount
	for typed, want := range map[string]api.Cmd{
		"0":                          {Key: '0'},
		"10w":                        {Count: 10, Key: 'w'},
		"100w":                       {Count: 100, Key: 'w'},
		"9876543w":                   {Count: 9876543, Key: 'w'},
		`"a0`:                        {Reg: 'a', Key: '0'},
		`2"a0`:                       {Reg: 'a', Count: 2, Key: '0'},
		`20"a30j`:                    {Reg: 'a', Count: 600, Key: 'j'},
		`2"x3gu4fa`:                  {Reg: 'x', Count: 24, Op: 'u', Key: 'f', Arg: 'a'},
		"d0":                         {Op: 'd', Key: '0'},
		"2d0":                        {Count: 2, Op: 'd', Key: '0'},
		"d10l":                       {Count: 10, Op: 'd', Key: 'l'},
		"12d12d":                     {Count: 144, Op: 'd', Line: true},
		"2147483646j":                {Count: most - 1, Key: 'j'},
		"2147483647j":                {Count: most, Key: 'j'},
		"2147483648j":                {Count: most, Key: 'j'},
		"2147483650j":                {Count: most, Key: 'j'},
		"4294967297j":                {Count: most, Key: 'j'},
		"21474836470j":               {Count: most, Key: 'j'},
		"9223372036854775808j":       {Count: most, Key: 'j'},
		"18446744073709551617j":      {Count: most, Key: 'j'},
		"1073741823d2j":              {Count: most - 1, Op: 'd', Key: 'j'},
		"1073741824d2j":              {Count: most, Op: 'd', Key: 'j'},
		"2d1073741824j":              {Count: most, Op: 'd', Key: 'j'},
		"2147483647d1j":              {Count: most, Op: 'd', Key: 'j'},
		"1d2147483647j":              {Count: most, Op: 'd', Key: 'j'},
		"99999999999d99999999999j":   {Count: most, Op: 'd', Key: 'j'},
		`65536"a65536"b65536d65536j`: {Reg: 'b', Count: most, Op: 'd', Key: 'j'},
		"46340d46341j":               {Count: 2147441940, Op: 'd', Key: 'j'},
		"46341d46341j":               {Count: most, Op: 'd', Key: 'j'},
	} {
		wantCmd(t, typed, false, want)
	}
	for _, visual := range modes {
		wantCmd(t, strings.Repeat("9", 5000)+"G", visual, api.Cmd{Count: most, Key: 'G'})
		wantCmd(t, "1"+strings.Repeat("0", 5000)+"G", visual, api.Cmd{Count: most, Key: 'G'})
	}
}

func TestManyCountsAndRegisters(t *testing.T) {
	wantCmd(t, strings.Repeat(`1"a`, 1000)+"3x", false, api.Cmd{Reg: 'a', Count: 3, Key: 'x'})
	wantCmd(t, strings.Repeat(`2"a`, 30)+`"bx`, false, api.Cmd{Reg: 'b', Count: 1 << 30, Key: 'x'})
	wantCmd(t, strings.Repeat(`2"a`, 31)+`"bx`, false, api.Cmd{Reg: 'b', Count: api.MaxCount, Key: 'x'})
	wantCmd(t, strings.Repeat(`2"a`, 200)+`"bx`, false, api.Cmd{Reg: 'b', Count: api.MaxCount, Key: 'x'})
}

// 14.1: the commands of visual mode

func TestOperatorsOfVisualMode(t *testing.T) {
	for _, x := range prefixes() {
		for _, r := range visualOps {
			wantCmd(t, x.typed+string(r), true, x.with(api.Cmd{Op: r}))
		}
		for _, r := range gOperators {
			wantCmd(t, x.typed+"g"+string(r), true, x.with(api.Cmd{Op: r}))
		}
		wantCmd(t, x.typed+"rx", true, x.with(api.Cmd{Op: 'r', Arg: 'x'}))
	}
}

func TestKeysOfVisualMode(t *testing.T) {
	for _, x := range prefixes() {
		for _, r := range visualKeys {
			wantCmd(t, x.typed+string(r), true, x.with(api.Cmd{Key: r}))
		}
	}
}

func TestObjectsOfVisualMode(t *testing.T) {
	for _, x := range prefixes() {
		for _, pre := range "ia" {
			for _, key := range objects {
				wantCmd(t, x.typed+string(pre)+string(key), true, x.with(api.Cmd{Pre: pre, Key: key}))
			}
		}
	}
}

func TestWhatIsNoneInVisualMode(t *testing.T) {
	for _, x := range prefixes() {
		for _, r := range "IAPR." {
			wantHow(t, x.typed+string(r), true, keys.Bad)
		}
	}
}

// 14.1: the mode of the runes that are held

func TestVisualIsThatOfTheFirstRune(t *testing.T) {
	for _, typed := range []string{"2d", `"ax`, "2A", "gu3w", "2diw", "2iw", `"aR`, "20R", "ra", "20rx", `2"3o`} {
		for _, first := range modes {
			l := []rune(typed)
			as, turned := keys.New(), keys.New()
			for i, r := range l {
				a, how := as.Feed(r, first)
				b, howTurned := turned.Feed(r, first == (i == 0))
				if a != b || how != howTurned {
					t.Fatalf("%q, visual %t, is %+v, %d, but %+v, %d, if that is turned", l[:i+1], first, a, how, b, howTurned)
				}
				if how != keys.More {
					break
				}
			}
		}
	}
}

func TestTheNextCommandHasItsOwnMode(t *testing.T) {
	p := keys.New()
	for i := range 10 {
		visual := i%2 == 1
		want := api.Cmd{Key: 'x'}
		if visual {
			want = api.Cmd{Op: 'x'}
		}
		if got, how := p.Feed('x', visual); how != keys.Done || got != want {
			t.Fatalf("x, visual %t, is %+v, %d", visual, got, how)
		}
		if _, how := p.Feed('Q', !visual); how != keys.Bad {
			t.Fatalf("Q is %d", how)
		}
		p.Feed('2', visual)
		want.Count = 2
		if got, how := p.Feed('x', !visual); how != keys.Done || got != want {
			t.Fatalf("2x, visual %t, is %+v, %d", visual, got, how)
		}
	}
}

// 14.1: Held

func TestHeldIsNobodyElses(t *testing.T) {
	p := keys.New()
	for _, r := range `2"a3` {
		p.Feed(r, false)
	}
	held := p.Held()
	for i := range held {
		held[i] = 'Q'
	}
	held = append(held, 'Q')
	if got := string(p.Held()); got != `2"a3` {
		t.Fatalf("it holds %q", got)
	}
	first := p.Held()
	p.Feed('d', false)
	if string(first) != `2"a3` || string(held) != "QQQQQ" {
		t.Fatalf("%q and %q were told", first, held)
	}
	if got, how := p.Feed('w', false); how != keys.Done || got != (api.Cmd{Reg: 'a', Count: 6, Op: 'd', Key: 'w'}) {
		t.Fatalf("it is %+v, %d", got, how)
	}
	if held := p.Held(); len(held) != 0 {
		t.Fatalf("it holds %q", held)
	}
}

func TestHeldDoesNothing(t *testing.T) {
	p := keys.New()
	for i, r := range "2d3f" {
		p.Feed(r, false)
		for range 3 {
			if got := string(p.Held()); got != "2d3f"[:i+1] {
				t.Fatalf("it holds %q", got)
			}
		}
	}
}

// 14.1: on nil

func TestFeedOnNil(t *testing.T) {
	var p *keys.Parser
	for _, r := range all() {
		for _, visual := range modes {
			if got, how := p.Feed(r, visual); how != keys.Bad || got != (api.Cmd{}) {
				t.Fatalf("%q is %+v, %d", r, got, how)
			}
		}
	}
	if held := p.Held(); len(held) != 0 {
		t.Fatalf("it holds %q", held)
	}
}

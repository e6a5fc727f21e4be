package register_test

import (
	"math/rand"
	"reflect"
	"slices"
	"strings"
	"testing"

	"inkhorn/api"
	"inkhorn/register"
)

// A second telling of the chapter: by a map of what each register holds, " among them, spelt as told does.
type plain map[rune]string

// lineCount tells how many lines are spelt.
func lineCount(spelt string) int {
	return strings.Count(spelt, "|")
}

// runeCount tells how many runes are spelt, one counted for each line.
func runeCount(spelt string) int {
	return len([]rune(spelt)) - 1
}

// behind tells what is held with what is put behind it.
func behind(held, put string) string {
	switch {
	case held == "":
		return put
	case held[0] == 'c' && put[0] == 'c':
		return held + put[2:]
	}
	return "l" + held[1:] + put[1:]
}

// put tells what Put answers, and does it.
func (p plain) put(name rune, spelt string, deleted bool) api.Errno {
	isSmall := 'a' <= name && name <= 'z'
	isCapital := 'A' <= name && name <= 'Z'
	isQuote := name == 0 || name == '"'
	if !isSmall && !isCapital && !isQuote && name != '_' || runeCount(spelt) > api.MaxRunes {
		return api.ErrArg
	}
	if lineCount(spelt) == 0 {
		spelt += "|"
	}
	into := name
	switch {
	case name == '_':
		return api.OK
	case isCapital:
		into += 'a' - 'A'
		spelt = behind(p[into], spelt)
		if runeCount(spelt) > api.MaxRunes {
			return api.ErrFull
		}
	case isQuote && !deleted:
		into = '0'
	case isQuote && (spelt[0] == 'l' || lineCount(spelt) > 1):
		for i := '9'; i > '1'; i-- {
			p[i] = p[i-1]
		}
		into = '1'
	case isQuote:
		into = '-'
	}
	p[into], p['"'] = spelt, spelt
	return api.OK
}

// state tells all, as state does of registers.
func (p plain) state() string {
	var all []string
	for _, name := range ownNames {
		if p[name] != "" {
			all = append(all, string(name)+"="+p[name])
		}
	}
	return strings.Join(all, " ")
}

// call is a call of Put.
type call struct {
	name    rune
	spelt   string
	deleted bool
}

// wantAlike does a call on registers and in the second telling, and fails, if they differ.
func wantAlike(t *testing.T, s *register.Set, p plain, c call, ahead []call) {
	t.Helper()
	err, want := s.Put(c.name, reg(c.spelt), c.deleted), p.put(c.name, c.spelt, c.deleted)
	if err != want {
		t.Fatalf("behind %v, %v is %d, not %d", ahead, c, err, want)
	}
	if got, want := state(s), p.state(); got != want {
		t.Fatalf("behind %v and %v they hold %s, not %s", ahead, c, got, want)
	}
}

// All rows of a few calls.
func TestAllShortRows(t *testing.T) {
	calls := []call{
		{'a', "c|x", false}, {'a', "b|x|y", true}, {'A', "c|y", false}, {'A', "l|z", true}, {'B', "c", false},
		{0, "c|s", true}, {'"', "l|d", true}, {0, "c|d|e", true}, {'"', "l|y", false}, {'_', "l|n", true}, {'1', "c|n", false},
	}
	var walk func(ahead []call)
	walk = func(ahead []call) {
		if len(ahead) == 4 {
			return
		}
		for _, c := range calls {
			s, p := register.New(), plain{}
			for _, one := range ahead {
				s.Put(one.name, reg(one.spelt), one.deleted)
				p.put(one.name, one.spelt, one.deleted)
			}
			wantAlike(t, s, p, c, ahead)
			walk(append(ahead[:len(ahead):len(ahead)], c))
		}
	}
	walk(nil)
}

// anyName tells a name by chance: mostly one of those that are often used, seldom one that is none.
func anyName(rnd *rand.Rand) rune {
	switch rnd.Intn(8) {
	case 0:
		return rune(rnd.Intn(128))
	case 1:
		return rune(ownNames[rnd.Intn(len(ownNames))])
	}
	return []rune{0, 0, '"', 'a', 'A', 'b', 'B', '_'}[rnd.Intn(8)]
}

// anySpelt spells something by chance.
func anySpelt(rnd *rand.Rand) string {
	spelt := kinds[rnd.Intn(3):][:1]
	for range rnd.Intn(4) {
		spelt += "|"
		for range rnd.Intn(4) {
			spelt += string(rune('a' + rnd.Intn(26)))
		}
	}
	return spelt
}

// Long rows of calls by chance.
func TestCallsByChance(t *testing.T) {
	rnd := rand.New(rand.NewSource(12))
	for range 100 {
		s, p := register.New(), plain{}
		for range 150 {
			wantAlike(t, s, p, call{anyName(rnd), anySpelt(rnd), rnd.Intn(2) == 0}, nil)
		}
	}
}

// Large ones put behind one another by chance, till they are full.
func TestFullByChance(t *testing.T) {
	rnd := rand.New(rand.NewSource(13))
	for range 40 {
		s, p := register.New(), plain{}
		for range 12 {
			spelt := kinds[rnd.Intn(3):][:1]
			for left := rnd.Intn(api.MaxRunes + 20); left > 0 && lineCount(spelt) < 3; {
				n := rnd.Intn(left + 1)
				spelt += "|" + strings.Repeat("x", n)
				left -= n + 1
			}
			wantAlike(t, s, p, call{[]rune("AAAaB")[rnd.Intn(5)], spelt, false}, nil)
		}
	}
}

// 12.3

// fresh tells what is put under a letter that held nothing: that, with a line at least.
func fresh(spelt string) string {
	if lineCount(spelt) == 0 {
		return spelt + "|"
	}
	return spelt
}

// What is put under a letter is there, whatever came ahead; and stays, till something else is put there.
func TestWhatIsPutUnderALetterIsThere(t *testing.T) {
	rnd := rand.New(rand.NewSource(14))
	s := register.New()
	for range 3000 {
		letter := rune(small[rnd.Intn(26)])
		spelt := anySpelt(rnd)
		put(t, s, letter, spelt, rnd.Intn(2) == 0, api.OK)
		for range rnd.Intn(5) {
			if name := anyName(rnd); name|32 != letter {
				s.Put(name, reg(anySpelt(rnd)), rnd.Intn(2) == 0)
			}
			wantGet(t, s, letter, fresh(spelt))
			wantGet(t, s, letter-32, fresh(spelt))
		}
	}
}

// digits tells what the registers 1 to 9 hold.
func digits(s *register.Set) []string {
	var all []string
	for name := '1'; name <= '9'; name++ {
		r, err := s.Get(name)
		if err != api.OK {
			all = append(all, "")
			continue
		}
		all = append(all, told(r))
	}
	return all
}

// Deletes of lines shift, all other calls leave what 1 to 9 hold; letters go by no delete.
func TestWhatShifts(t *testing.T) {
	rnd := rand.New(rand.NewSource(15))
	s := register.New()
	for range 5000 {
		was := digits(s)
		c := call{anyName(rnd), anySpelt(rnd), rnd.Intn(2) == 0}
		err := s.Put(c.name, reg(c.spelt), c.deleted)
		want := was
		if err == api.OK && (c.name == 0 || c.name == '"') && c.deleted && (c.spelt[0] == 'l' || lineCount(c.spelt) > 1) {
			want = append([]string{fresh(c.spelt)}, was[:8]...)
		}
		if got := digits(s); !slices.Equal(got, want) {
			t.Fatalf("behind %v 1 to 9 hold %q, not %q", c, got, want)
		}
	}
}

// R4

// guarded tells something, and the memory in which it lies: more lines, and more runes of each, than it has.
func guarded(kind int, lines ...string) (api.Reg, [][]rune) {
	var all [][]rune
	for _, line := range lines {
		all = append(all, []rune(line+"##"))
	}
	all = append(all, []rune("#"), []rune("#"))
	r := api.Reg{Kind: kind}
	for i, line := range all {
		if i < len(lines) {
			all[i] = line[:len(line)-2]
		}
	}
	r.Lines = all[:len(lines)]
	return r, all
}

// whole tells memory, up to the end of each line's.
func whole(all [][]rune) string {
	var b strings.Builder
	for _, line := range all[:cap(all)] {
		b.WriteString(string(line[:cap(line)]) + "|")
	}
	return b.String()
}

// scribble writes into all lines, up to the end of their memory, and takes other lines in their place.
func scribble(l [][]rune) {
	l = l[:cap(l)]
	for i, line := range l {
		for j := range line[:cap(line)] {
			line[:cap(line)][j] = '!'
		}
		l[i] = []rune("!")
	}
}

func TestWhatIsPutInIsNotChanged(t *testing.T) {
	for _, name := range []rune{'a', 'A', 0, '"', '_', '1', 'B'} {
		for kind := -1; kind < 4; kind++ {
			s := register.New()
			put(t, s, 'a', "c|x", false, api.OK)
			r, all := guarded(kind, "ab", "", "c")
			was, lines := whole(all), reflect.ValueOf(r.Lines).Pointer()
			for _, other := range []call{{'A', "c|y|z", false}, {0, "l|z", true}, {'B', "c|u", false}} {
				s.Put(name, r, true)
				s.Put(other.name, reg(other.spelt), other.deleted)
				s.Put(name, r, false)
			}
			if whole(all) != was || len(r.Lines) != 3 || r.Kind != kind || reflect.ValueOf(r.Lines).Pointer() != lines {
				t.Fatalf("Put(%q) changed what was handed in: %s, not %s", name, whole(all), was)
			}
		}
	}
}

func TestWhatIsPutInIsNotKept(t *testing.T) {
	s := register.New()
	for _, c := range []call{{'a', "", false}, {'A', "", false}, {'A', "", false}, {'B', "", true}, {0, "", true}, {0, "", false}, {'"', "", true}} {
		for kind := range 3 {
			r, all := guarded(kind, "ab", "c")
			s.Put(c.name, r, c.deleted)
			was := state(s)
			scribble(all)
			if state(s) != was {
				t.Fatalf("a caller who writes into what Put(%q) was given changes what is held", c.name)
			}
		}
	}
}

func TestALineThatStandsThereTwice(t *testing.T) {
	s := register.New()
	line := []rune("ab")
	s.Put('a', api.Reg{Lines: [][]rune{line, line}}, false)
	put(t, s, 'A', "c|x", false, api.OK)
	wantState(t, s, `"=c|ab|abx a=c|ab|abx`)
	r, _ := s.Get('a')
	r.Lines[0][0] = '!'
	if string(r.Lines[1]) != "abx" {
		t.Fatal("two lines of an answer share memory")
	}
}

func TestAnswersAreNewMemory(t *testing.T) {
	rnd := rand.New(rand.NewSource(16))
	s := register.New()
	for range 400 {
		s.Put(anyName(rnd), reg(anySpelt(rnd)), rnd.Intn(2) == 0)
		was := state(s)
		one, other := s.All(), s.All()
		for _, x := range one {
			scribble(x.Reg.Lines)
		}
		for _, name := range ownNames {
			a, _ := s.Get(name)
			b, _ := s.Get(name)
			kept := told(b)
			scribble(a.Lines)
			if told(b) != kept {
				t.Fatalf("two answers of Get(%q) share memory", name)
			}
		}
		if state(s) != was {
			t.Fatal("a caller who writes into an answer changes what is held")
		}
		var all []string
		for _, x := range other {
			all = append(all, string(x.Name)+"="+told(x.Reg))
		}
		if strings.Join(all, " ") != was {
			t.Fatal("two answers of All share memory")
		}
	}
}

// What was told stays as it is, whatever is put behind it.
func TestAnswersStay(t *testing.T) {
	rnd := rand.New(rand.NewSource(17))
	s := register.New()
	var kept [][]api.Named
	var was []string
	for range 300 {
		s.Put(anyName(rnd), reg(anySpelt(rnd)), rnd.Intn(2) == 0)
		kept, was = append(kept, s.All()), append(was, state(s))
	}
	for i, all := range kept {
		var spelt []string
		for _, x := range all {
			spelt = append(spelt, string(x.Name)+"="+told(x.Reg))
		}
		if got := strings.Join(spelt, " "); got != was[i] {
			t.Fatalf("what was told is %s by now, and was %s", got, was[i])
		}
	}
}

// R1: what is much too large, and very many small ones.

func TestVeryLarge(t *testing.T) {
	s := register.New()
	put(t, s, 'a', "c|x", false, api.OK)
	line := make([]rune, 1<<20)
	lines := make([][]rune, 1<<20)
	for i := range lines {
		lines[i] = line
	}
	for _, name := range []rune{'a', 'A', 0, '_'} {
		for kind := range 3 {
			if err := s.Put(name, api.Reg{Kind: kind, Lines: lines}, true); err != api.ErrArg {
				t.Fatal(err)
			}
		}
	}
	wantState(t, s, `"=c|x a=c|x`)
}

func TestVeryManySmallOnes(t *testing.T) {
	for _, w := range []struct {
		spelt string
		most  int
	}{
		{"c|x", api.MaxRunes - 1}, {"l|x", api.MaxRunes / 2}, {"c||", api.MaxRunes - 1}, {"b|", api.MaxRunes},
	} {
		s := register.New()
		r := reg(w.spelt)
		n := 0
		for n <= w.most && s.Put('Q', r, false) == api.OK {
			n++
		}
		if n != w.most {
			t.Fatalf("%s was put behind %d times, not %d", w.spelt, n, w.most)
		}
		if got, err := s.Get('q'); err != api.OK || runeCount(told(got)) != api.MaxRunes {
			t.Fatalf("then it holds %d", runeCount(told(got)))
		}
	}
}

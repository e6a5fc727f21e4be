package register_test

import (
	"math"
	"strings"
	"testing"

	"inkhorn/api"
	"inkhorn/register"
)

// kinds are the letters by which the tests spell the kinds.
const kinds = "clb"

// reg tells what is spelt by a kind's letter and the lines, each behind a bar: of "c" without a line, of "l|" with an empty one.
func reg(spelt string) api.Reg {
	r := api.Reg{Kind: strings.Index(kinds, spelt[:1])}
	for _, line := range strings.Split(spelt, "|")[1:] {
		r.Lines = append(r.Lines, []rune(line))
	}
	return r
}

// told spells something as reg reads it.
func told(r api.Reg) string {
	var b strings.Builder
	if r.Kind < 0 || r.Kind >= len(kinds) {
		return "a kind that is none"
	}
	b.WriteByte(kinds[r.Kind])
	for _, line := range r.Lines {
		b.WriteString("|" + string(line))
	}
	return b.String()
}

// state tells what all registers hold, as All tells it: each behind its name, a blank between each two.
func state(s *register.Set) string {
	var all []string
	for _, x := range s.All() {
		all = append(all, string(x.Name)+"="+told(x.Reg))
	}
	return strings.Join(all, " ")
}

// put puts what is spelt into a register, and fails, if that is not answered as wanted.
func put(t *testing.T, s *register.Set, name rune, spelt string, deleted bool, want api.Errno) {
	t.Helper()
	if got := s.Put(name, reg(spelt), deleted); got != want {
		t.Fatalf("Put(%q, %s, %t) is %d, not %d", name, spelt, deleted, got, want)
	}
}

// wantState fails, if registers hold other things, by All or by Get.
func wantState(t *testing.T, s *register.Set, want string) {
	t.Helper()
	if got := state(s); got != want {
		t.Fatalf("All tells %s, not %s", got, want)
	}
	var all []string
	for _, name := range ownNames {
		if r, err := s.Get(name); err == api.OK {
			all = append(all, string(name)+"="+told(r))
		} else {
			wantNone(t, s, name, api.ErrEmpty)
		}
	}
	if got := strings.Join(all, " "); got != want {
		t.Fatalf("Get tells %s, not %s", got, want)
	}
}

// wantGet fails, if a register holds something else.
func wantGet(t *testing.T, s *register.Set, name rune, want string) {
	t.Helper()
	if got, err := s.Get(name); err != api.OK || told(got) != want {
		t.Fatalf("Get(%q) is %s, %d, not %s", name, told(got), err, want)
	}
}

// wantNone fails, if Get tells another error, or something beside it.
func wantNone(t *testing.T, s *register.Set, name rune, want api.Errno) {
	t.Helper()
	if got, err := s.Get(name); err != want || got.Kind != 0 || len(got.Lines) != 0 {
		t.Fatalf("Get(%q) is %v, %d, not %d alone", name, got, err, want)
	}
}

// The names: of all registers, rising; and of letters.
const (
	ownNames = `"-0123456789abcdefghijklmnopqrstuvwxyz`
	small    = "abcdefghijklmnopqrstuvwxyz"
	capital  = "ABCDEFGHIJKLMNOPQRSTUVWXYZ"
)

// The examples of the chapter.
func TestTheExamples(t *testing.T) {
	s := register.New()
	put(t, s, 'a', "c|xy", false, api.OK)
	wantState(t, s, `"=c|xy a=c|xy`)
	put(t, s, 'A', "l|z", false, api.OK)
	wantState(t, s, `"=l|xy|z a=l|xy|z`)

	s = register.New()
	put(t, s, 0, "l|l", true, api.OK)
	wantState(t, s, `"=l|l 1=l|l`)
	put(t, s, 0, "l|m", true, api.OK)
	wantState(t, s, `"=l|m 1=l|m 2=l|l`)
}

// 12.1: New

func TestNewHoldsNothing(t *testing.T) {
	s := register.New()
	wantState(t, s, "")
	wantNone(t, s, 0, api.ErrEmpty)
	wantNone(t, s, '_', api.ErrEmpty)
	for _, name := range capital {
		wantNone(t, s, name, api.ErrEmpty)
	}
}

func TestNewIsNobodyElses(t *testing.T) {
	s, other := register.New(), register.New()
	put(t, s, 'a', "c|x", false, api.OK)
	put(t, s, 0, "l|x", true, api.OK)
	wantState(t, other, "")
	wantState(t, register.New(), "")
}

// 12.1: letters

func TestASmallLetterHoldsWhatIsPut(t *testing.T) {
	for _, name := range small {
		for _, spelt := range []string{"c|xy", "c|x|y", "c|", "l|xy", "l|x||y", "b|xy", "b|x|y"} {
			for _, deleted := range []bool{false, true} {
				s := register.New()
				put(t, s, name, spelt, deleted, api.OK)
				wantState(t, s, `"=`+spelt+" "+string(name)+"="+spelt)
				put(t, s, name, "b|other", deleted, api.OK) // what it held is gone
				wantState(t, s, `"=b|other `+string(name)+"=b|other")
			}
		}
	}
}

func TestACapitalLetterOnNothing(t *testing.T) {
	for i, name := range capital {
		for _, spelt := range []string{"c|xy", "c|x|y", "c|", "l|xy", "l|x|y", "b|xy", "b|x|y"} {
			for _, deleted := range []bool{false, true} {
				s := register.New()
				put(t, s, name, spelt, deleted, api.OK)
				wantState(t, s, `"=`+spelt+" "+small[i:i+1]+"="+spelt)
			}
		}
	}
}

func TestACapitalLetterPutsBehind(t *testing.T) {
	for _, w := range []struct{ held, put, want string }{
		{"c|ab", "c|cd", "c|abcd"}, // both of characters: joined
		{"c|a|b", "c|c", "c|a|bc"},
		{"c|a", "c|b|c", "c|ab|c"},
		{"c|a|b", "c|c|d|e", "c|a|bc|d|e"},
		{"c|", "c|", "c|"},
		{"c|", "c|a", "c|a"},
		{"c|a", "c|", "c|a"},
		{"c|a|", "c||b", "c|a||b"},
		{"c|a", "l|b", "l|a|b"}, // else: lines
		{"c|a|b", "l|c|d", "l|a|b|c|d"},
		{"c|a", "b|b", "l|a|b"},
		{"l|a", "c|b", "l|a|b"},
		{"l|a|b", "c|c|d", "l|a|b|c|d"},
		{"l|a", "l|b", "l|a|b"},
		{"l|", "l|", "l||"},
		{"l|a", "b|b", "l|a|b"},
		{"b|a", "c|b", "l|a|b"},
		{"b|a|b", "l|c", "l|a|b|c"},
		{"b|a|b", "b|c|d", "l|a|b|c|d"}, // of two blocks, too
	} {
		for i, name := range capital {
			for _, deleted := range []bool{false, true} {
				s, own := register.New(), small[i:i+1]
				put(t, s, rune(own[0]), w.held, false, api.OK)
				put(t, s, name, w.put, deleted, api.OK)
				wantState(t, s, `"=`+w.want+" "+own+"="+w.want)
			}
		}
	}
}

func TestACapitalLetterAgainAndAgain(t *testing.T) {
	s := register.New()
	for _, step := range []struct{ put, want string }{
		{"c|a", "c|a"}, {"c|b|c", "c|ab|c"}, {"c|d", "c|ab|cd"}, {"b|e", "l|ab|cd|e"}, {"c|f", "l|ab|cd|e|f"}, {"c|g", "l|ab|cd|e|f|g"}, {"l||h", "l|ab|cd|e|f|g||h"},
	} {
		put(t, s, 'Q', step.put, true, api.OK)
		wantState(t, s, `"=`+step.want+" q="+step.want)
	}
}

func TestALetterLeavesTheOthers(t *testing.T) {
	s := register.New()
	put(t, s, 'a', "c|a", false, api.OK)
	put(t, s, 'b', "c|b", false, api.OK)
	put(t, s, 'A', "c|c", true, api.OK)
	put(t, s, 'z', "l|z", true, api.OK)
	wantState(t, s, `"=l|z a=c|ac b=c|b z=l|z`)
	put(t, s, 'B', "l|d", false, api.OK)
	wantState(t, s, `"=l|b|d a=c|ac b=l|b|d z=l|z`)
}

// 12.1: 0 and "

func TestWhatIsYankedIsIn0(t *testing.T) {
	for _, name := range []rune{0, '"'} {
		s := register.New()
		for _, spelt := range []string{"c|x", "c|x|y", "l|x", "l|x|y", "b|x", "b|x|y", "c|"} {
			put(t, s, name, spelt, false, api.OK)
			wantState(t, s, `"=`+spelt+" 0="+spelt) // nothing shifts
		}
	}
}

func TestWhatIsDeletedIsIn1OrIsSmall(t *testing.T) {
	for _, w := range []struct{ put, into string }{
		{"c|x", "-"}, {"c|", "-"}, {"c|a long one", "-"}, {"b|x", "-"}, {"b|", "-"},
		{"c|x|y", "1"}, {"c||", "1"}, {"c|x|y|z", "1"}, {"b|x|y", "1"}, {"b||", "1"},
		{"l|x", "1"}, {"l|", "1"}, {"l|x|y", "1"},
	} {
		for _, name := range []rune{0, '"'} {
			s := register.New()
			put(t, s, name, w.put, true, api.OK)
			wantState(t, s, `"=`+w.put+" "+w.into+"="+w.put)
		}
	}
}

func TestDeletesOfLinesShift(t *testing.T) {
	s := register.New()
	for n := 1; n <= 25; n++ {
		put(t, s, []rune{0, '"'}[n%2], "l|"+strings.Repeat("x", n), true, api.OK)
		want := `"=l|` + strings.Repeat("x", n)
		for i := 1; i <= min(n, 9); i++ {
			want += " " + string(rune('0'+i)) + "=l|" + strings.Repeat("x", n+1-i)
		}
		wantState(t, s, want)
	}
}

func TestOnlyDeletesOfLinesShift(t *testing.T) {
	s := register.New()
	put(t, s, 0, "l|a", true, api.OK)
	put(t, s, 0, "c|b|c", true, api.OK)
	held := "1=c|b|c 2=l|a"
	for _, step := range []struct {
		name    rune
		put     string
		deleted bool
		want    string
	}{
		{0, "l|y", false, `"=l|y 0=l|y ` + held}, // yanked
		{'"', "c|y|y", false, `"=c|y|y 0=c|y|y ` + held},
		{0, "c|s", true, `"=c|s -=c|s 0=c|y|y ` + held}, // small
		{'"', "b|t", true, `"=b|t -=b|t 0=c|y|y ` + held},
		{'k', "l|k", true, `"=l|k -=b|t 0=c|y|y ` + held + " k=l|k"}, // into a letter
		{'K', "l|m", true, `"=l|k|m -=b|t 0=c|y|y ` + held + " k=l|k|m"},
		{'_', "l|m", true, `"=l|k|m -=b|t 0=c|y|y ` + held + " k=l|k|m"},
		{0, "b|n|o", true, `"=b|n|o -=b|t 0=c|y|y 1=b|n|o 2=c|b|c 3=l|a k=l|k|m`},
	} {
		put(t, s, step.name, step.put, step.deleted, api.OK)
		wantState(t, s, step.want)
	}
}

// 12.1: _

func TestNothingIsPutUnderTheUnderscore(t *testing.T) {
	s := register.New()
	for _, deleted := range []bool{false, true} {
		put(t, s, '_', "l|x", deleted, api.OK)
		put(t, s, '_', "c|x", deleted, api.OK)
		put(t, s, '_', "c", deleted, api.OK)
		wantState(t, s, "")
	}
	put(t, s, 0, "l|l", true, api.OK)
	put(t, s, 'a', "c|x", false, api.OK)
	put(t, s, '_', "l|y", true, api.OK)
	put(t, s, '_', "l|y", false, api.OK)
	wantState(t, s, `"=c|x 1=l|l a=c|x`)
	wantNone(t, s, '_', api.ErrEmpty)
}

// 12.1: r without a line

func TestWithoutALineItIsOneWithAnEmptyOne(t *testing.T) {
	for _, kind := range []string{"c", "l", "b"} {
		into := map[string]string{"c": "-", "l": "1", "b": "-"}[kind]
		for _, w := range []struct {
			name    rune
			deleted bool
			into    string
		}{
			{'a', false, "a"}, {'a', true, "a"}, {'A', false, "a"}, {0, false, "0"}, {'"', false, "0"}, {0, true, into}, {'"', true, into},
		} {
			for _, lines := range [][][]rune{nil, {}, {nil}, {{}}} {
				s := register.New()
				r := api.Reg{Kind: strings.Index(kinds, kind), Lines: lines}
				if err := s.Put(w.name, r, w.deleted); err != api.OK {
					t.Fatalf("Put(%q, %v) is %d", w.name, r, err)
				}
				wantState(t, s, `"=`+kind+"| "+w.into+"="+kind+"|")
			}
		}
	}
}

func TestWithoutALineBehindOthers(t *testing.T) {
	for _, w := range []struct{ held, put, want string }{
		{"c|a", "c", "c|a"}, {"c|a|b", "c", "c|a|b"}, {"c|a", "l", "l|a|"}, {"c|a", "b", "l|a|"}, {"l|a", "c", "l|a|"}, {"l|a", "l", "l|a|"}, {"b|a", "b", "l|a|"},
		{"c", "c|a", "c|a"}, {"c", "l|a", "l||a"}, {"l", "l", "l||"}, // what it holds has a line, too
	} {
		s := register.New()
		put(t, s, 'a', w.held, false, api.OK)
		put(t, s, 'A', w.put, false, api.OK)
		wantState(t, s, `"=`+w.want+" a="+w.want)
	}
}

// 12.1: how large something may be

// sized tells something of a kind with lines of so many runes.
func sized(kind int, lengths ...int) api.Reg {
	r := api.Reg{Kind: kind}
	for _, n := range lengths {
		r.Lines = append(r.Lines, make([]rune, n))
	}
	return r
}

func TestTheMost(t *testing.T) {
	const most = api.MaxRunes
	for kind := range 3 {
		for _, r := range []api.Reg{sized(kind, most-1), sized(kind, most-2, 0), sized(kind, 0, most-2), sized(kind, 100, most-103, 0), sized(kind, make([]int, most)...)} {
			more := sized(kind)
			for i, line := range r.Lines {
				more.Lines = append(more.Lines, line)
				if i == 0 {
					more.Lines[0] = make([]rune, len(line)+1)
				}
			}
			another := api.Reg{Kind: kind, Lines: append(r.Lines[:len(r.Lines):len(r.Lines)], nil)}
			for _, name := range []rune{'a', 'z', 'A', 'Z', 0, '"', '_'} {
				for _, deleted := range []bool{false, true} {
					s := register.New()
					for _, large := range []api.Reg{more, another} {
						if err := s.Put(name, large, deleted); err != api.ErrArg {
							t.Fatalf("Put(%q) of one rune more, of kind %d in %d lines: %d", name, kind, len(large.Lines), err)
						}
					}
					wantState(t, s, "")
					if err := s.Put(name, r, deleted); err != api.OK {
						t.Fatalf("Put(%q) of as many as may be, of kind %d in %d lines: %d", name, kind, len(r.Lines), err)
					}
					if got, _ := s.Get(name); name != '_' && told(got) != told(r) {
						t.Fatalf("Get(%q) is not what was put", name)
					}
				}
			}
		}
	}
}

func TestTheMostBehindOthers(t *testing.T) {
	const most = api.MaxRunes
	for _, w := range []struct {
		held, put api.Reg
		want      api.Errno
	}{
		{sized(0, 10), sized(0, most-11), api.OK}, // joined: one line less
		{sized(0, 10), sized(0, most-10), api.ErrFull},
		{sized(0, most-1), sized(0, 0), api.OK},
		{sized(0, most-1), sized(0), api.OK},
		{sized(0, most-1), sized(0, 1), api.ErrFull},
		{sized(0, most-1), sized(0, 0, 0), api.ErrFull},
		{sized(0, 0), sized(0, most-1), api.OK},
		{sized(0), sized(0, most-1), api.OK},
		{sized(0, 5, 5), sized(0, 5, most-18), api.OK},
		{sized(0, 5, 5), sized(0, 5, most-17), api.ErrFull},
		{sized(0, make([]int, most/2)...), sized(0, make([]int, most/2+1)...), api.OK},
		{sized(0, make([]int, most/2)...), sized(0, make([]int, most/2+2)...), api.ErrFull},
		{sized(0, 10), sized(1, most-12), api.OK}, // lines: both count whole
		{sized(0, 10), sized(1, most-11), api.ErrFull},
		{sized(1, 10), sized(0, most-12), api.OK},
		{sized(1, 10), sized(0, most-11), api.ErrFull},
		{sized(1, 10), sized(1, most-12), api.OK},
		{sized(1, 10), sized(1, most-11), api.ErrFull},
		{sized(2, 10), sized(2, most-12), api.OK},
		{sized(2, 10), sized(2, most-11), api.ErrFull},
		{sized(1, most-2), sized(1), api.OK}, // an empty line counts, too
		{sized(1, most-1), sized(1), api.ErrFull},
		{sized(1, most-1), sized(0), api.ErrFull},
		{sized(0, most-1), sized(1), api.ErrFull},
		{sized(1, most-1), sized(1, most-1), api.ErrFull},
		{sized(1, make([]int, most-1)...), sized(1), api.OK},
		{sized(1, make([]int, most)...), sized(1), api.ErrFull},
	} {
		s := register.New()
		if err := s.Put('m', w.held, false); err != api.OK {
			t.Fatal(err)
		}
		put(t, s, 'n', "c|n", false, api.OK)
		was := state(s)
		if err := s.Put('M', w.put, false); err != w.want {
			t.Fatalf("%d lines of kind %d behind %d of kind %d: %d, not %d", len(w.put.Lines), w.put.Kind, len(w.held.Lines), w.held.Kind, err, w.want)
		}
		if w.want != api.OK && state(s) != was {
			t.Fatal("a call that failed changed what is held")
		}
		if w.want == api.OK && state(s) == was {
			t.Fatal("nothing was put behind")
		}
	}
}

func TestAFullOneIsLeftAsItIs(t *testing.T) {
	s := register.New()
	put(t, s, 'a', "c|x", false, api.OK)
	s.Put('b', sized(1, api.MaxRunes-2), false)
	put(t, s, 'c', "c|z", false, api.OK)
	was := state(s)
	put(t, s, 'B', "l|y", false, api.ErrFull)
	put(t, s, 'B', "c|yy", true, api.ErrFull)
	if state(s) != was {
		t.Fatal("a call that failed changed what is held")
	}
	put(t, s, 'B', "c|", true, api.OK) // there is still room for an empty line
	put(t, s, 'B', "c|", true, api.ErrFull)
	put(t, s, 'b', "c|y", true, api.OK)
	wantState(t, s, `"=c|y a=c|x b=c|y c=c|z`)
}

// 12.1: which is wrong

// someNames are runes of all kinds: all small ones, and some of the others.
func someNames() []rune {
	all := []rune{math.MinInt32, -1000, math.MaxInt32, 0x10FFFF, 0x110000, 0xD800, 0xFFFD, 0x20000}
	for r := rune(-300); r < 70000; r++ {
		all = append(all, r)
	}
	return all
}

func TestNamesThatMayNotBeForPut(t *testing.T) {
	s := register.New()
	put(t, s, 'a', "c|x", false, api.OK)
	put(t, s, 0, "l|y", true, api.OK)
	was := state(s)
	for _, name := range someNames() {
		if name == 0 || name > 0 && strings.ContainsRune(small+capital+`"_`, name) {
			continue
		}
		for _, spelt := range []string{"c|x", "l|x", "b|x|y"} {
			put(t, s, name, spelt, name%2 == 0, api.ErrArg)
		}
	}
	wantState(t, s, was)
}

func TestRegistersWithoutANameForPut(t *testing.T) {
	for _, name := range "-0123456789" { // they are registers, and may be asked for, but nothing is put under their names
		s := register.New()
		put(t, s, name, "c|x", false, api.ErrArg)
		put(t, s, name, "l|x", true, api.ErrArg)
		wantState(t, s, "")
	}
}

func TestKindsThatAreNone(t *testing.T) {
	s := register.New()
	put(t, s, 'a', "c|x", false, api.OK)
	for _, kind := range []int{-1, 3, 4, 256, 257, 1 << 32, 1<<32 + 1, math.MaxInt, math.MinInt} {
		for _, name := range []rune{'a', 'A', 'b', 'B', 0, '"', '_'} {
			for _, r := range []api.Reg{{Kind: kind, Lines: [][]rune{{'y'}}}, {Kind: kind}} {
				if err := s.Put(name, r, kind > 0); err != api.ErrArg {
					t.Fatalf("Put(%q) of kind %d: %d", name, kind, err)
				}
			}
		}
	}
	wantState(t, s, `"=c|x a=c|x`)
}

func TestErrArgIsToldFirst(t *testing.T) {
	s := register.New()
	s.Put('a', sized(1, api.MaxRunes-1), false)
	was := state(s)
	for _, r := range []api.Reg{{Kind: 3, Lines: [][]rune{{'x'}}}, sized(1, api.MaxRunes), sized(-1, api.MaxRunes)} {
		if err := s.Put('A', r, false); err != api.ErrArg {
			t.Fatalf("%d of something that may not be at all", err)
		}
	}
	put(t, s, '1', "l|x", false, api.ErrArg)
	if state(s) != was {
		t.Fatal("a call that failed changed what is held")
	}
}

// 12.2

func TestWhichNamesMayBeAskedFor(t *testing.T) {
	full, empty := register.New(), register.New()
	for i := range 9 {
		put(t, full, 0, "l|"+string(rune('9'-i)), true, api.OK)
	}
	for _, name := range small {
		put(t, full, name, "c|"+string(name), false, api.OK)
	}
	put(t, full, 0, "c|-", true, api.OK)
	put(t, full, 0, "b|0|0", false, api.OK)
	want := map[rune]string{0: "b|0|0", '"': "b|0|0", '0': "b|0|0", '-': "c|-"}
	for _, name := range "123456789" {
		want[name] = "l|" + string(name)
	}
	for i, name := range small {
		want[name], want[rune(capital[i])] = "c|"+string(name), "c|"+string(name)
	}
	for _, name := range someNames() {
		switch spelt, ok := want[name]; {
		case ok:
			wantGet(t, full, name, spelt)
			wantNone(t, empty, name, api.ErrEmpty)
		case name == '_':
			wantNone(t, full, name, api.ErrEmpty)
			wantNone(t, empty, name, api.ErrEmpty)
		default:
			wantNone(t, full, name, api.ErrArg)
			wantNone(t, empty, name, api.ErrArg)
		}
	}
}

func TestGetChangesNothing(t *testing.T) {
	s := register.New()
	put(t, s, 'a', "c|a", false, api.OK)
	put(t, s, 'b', "c|b", false, api.OK)
	for _, name := range []rune{'a', 'A', 'z', '_', '1', '!', 0} {
		s.Get(name)
		wantState(t, s, `"=c|b a=c|a b=c|b`) // " too: asking is not putting
	}
}

func TestAllByRisingNames(t *testing.T) {
	s := register.New()
	for i := range len(small) { // from the last one on
		put(t, s, rune(small[len(small)-1-i]), "c|x", false, api.OK)
	}
	put(t, s, 0, "c|x", false, api.OK)
	put(t, s, 0, "c|x", true, api.OK)
	for range 9 {
		put(t, s, 0, "c|x|", true, api.OK)
	}
	var names string
	for _, x := range s.All() {
		names += string(x.Name)
	}
	if names != ownNames {
		t.Fatal(names)
	}
}

// On nil

func TestNil(t *testing.T) {
	var s *register.Set
	for _, name := range []rune{'a', 'A', 0, '"', '_', '1', '-', '!', -1} {
		put(t, s, name, "c|x", false, api.ErrArg)
		put(t, s, name, "l|x", true, api.ErrArg)
		wantNone(t, s, name, api.ErrArg)
	}
	if len(s.All()) != 0 {
		t.Fatal("a nil set tells registers")
	}
}

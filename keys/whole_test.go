package keys_test

import (
	"math/rand"
	"regexp"
	"slices"
	"strings"
	"testing"

	"inkhorn/api"
	"inkhorn/keys"
)

// A second telling of the chapter's commands: by patterns that match whole ones.
type telling struct{ whole *regexp.Regexp }

// The parts of the patterns; their groups are named by what is found in them.
const (
	anyRune     = `[^\x1b]`
	counted     = `[1-9][0-9]*`
	aheadPart   = `(?P<ahead>(?:"` + anyRune + `|` + counted + `)*?)`
	objectPart  = `(?P<pre>[ia])(?P<key>[wWp()b\[\]{}B<>"'` + "`" + `])`
	motionPart  = `(?P<key>[hljk+\-_G0^$|wWbBeE%{}()HML;,nN])|(?P<key>[ftFT'` + "`" + `])(?P<arg>` + anyRune + `)|(?P<pre>g)(?P<key>g)`
	bothPart    = `(?P<key>m)(?P<arg>` + anyRune + `)|(?P<pre>[z\x17])(?P<key>` + anyRune + `)|(?P<key>[oO\x12vV\x16nN;,:/?\x0f\x09\x05\x19\x04\x15\x0c\x1b])`
	operandPart = `(?P<behind>` + counted + `)?(?:` + motionPart + `|` + objectPart // its bracket stays open: an operator's own rune is one more of these
)

// normalPart tells the pattern of what only normal mode has.
func normalPart() string {
	parts := []string{`(?P<key>[xXDCYsSJpPiIaA.uR~])`, `(?P<key>r)(?P<arg>` + anyRune + `)`}
	for _, op := range []string{"d", "c", "y", "<", ">", "g~", "gu", "gU"} {
		own := op[len(op)-1:]
		parts = append(parts, `(?:`+strings.TrimSuffix(op, own)+`(?P<op>`+own+`))`+operandPart+`|(?P<line>`+own+`))`)
	}
	return strings.Join(parts, `|`)
}

// visualPart is the pattern of what only visual mode has.
const visualPart = `(?P<op>[dcy<>~uUxDXsSCYJp])|g(?P<op>[~uU])|(?P<op>r)(?P<arg>` + anyRune + `)|` + objectPart

// tellings tells both of them, by whether it is visual mode.
func tellings() map[bool]telling {
	made := map[bool]telling{}
	for visual, own := range map[bool]string{false: normalPart(), true: visualPart} {
		made[visual] = telling{regexp.MustCompile(`(?s)^` + aheadPart + `(?:` + own + `|` + bothPart + `|` + motionPart + `)$`)}
	}
	return made
}

// product tells counts that are spelt, multiplied as far as they go.
func product(counts ...string) int {
	n := 0
	for _, spelt := range counts {
		one := 0
		for _, d := range spelt {
			one = min(one*10+int(d-'0'), api.MaxCount)
		}
		n = min(max(n, 1)*one, api.MaxCount)
	}
	return n
}

// cmd tells the command that runes are, and whether they are one.
func (x telling) cmd(l string) (api.Cmd, bool) {
	found := x.whole.FindStringSubmatch(l)
	if found == nil {
		return api.Cmd{}, false
	}
	var c api.Cmd
	var counts []string
	open := false // behind a count a 0 is one of its digits
	for i, name := range x.whole.SubexpNames() {
		if found[i] == "" {
			continue
		}
		first := []rune(found[i])[0]
		switch name {
		case "ahead":
			c.Reg, counts, open = aheadOf(found[i])
		case "behind":
			counts, open = append(counts, found[i]), true
		case "op":
			c.Op, open = first, false
		case "pre":
			c.Pre = first
		case "key":
			c.Key = first
		case "arg":
			c.Arg = first
		case "line":
			c.Line = true
		}
	}
	if open && c.Key == '0' && c.Pre == 0 {
		return api.Cmd{}, false
	}
	c.Count = product(counts...)
	return c, true
}

// aheadOf takes registers and counts apart, and tells whether a count is the last of them.
func aheadOf(l string) (reg rune, counts []string, open bool) {
	for _, part := range regexp.MustCompile(`(?s)"(.)|[0-9]+`).FindAllStringSubmatch(l, -1) {
		open = part[1] == ""
		if open {
			counts = append(counts, part[0])
		} else {
			reg = []rune(part[1])[0]
		}
	}
	return reg, counts, open
}

// feed tells what Feed answers to the last of runes, the ones ahead of which are held.
func (x telling) feed(l string) (api.Cmd, int) {
	if c, ok := x.cmd(l); ok {
		return c, keys.Done
	}
	for _, end := range []string{"w", "g", "ww"} { // each beginning of a command goes on to one with one of these
		if _, ok := x.cmd(l + end); ok {
			return api.Cmd{}, keys.More
		}
	}
	return api.Cmd{}, keys.Bad
}

// wantAlike fails, if runes are answered otherwise than the second telling does; it tells the answer.
func wantAlike(t *testing.T, x telling, l string, visual bool) int {
	t.Helper()
	got, how := feed(t, keys.New(), []rune(l), visual)
	if want, wantHow := x.feed(l); got != want || how != wantHow {
		t.Fatalf("%q, visual %t, is %+v, %d, not %+v, %d", l, visual, got, how, want, wantHow)
	}
	return how
}

// walk goes through all rows of runes behind some that are held, so many more at most.
func walk(t *testing.T, x telling, l string, visual bool, runes []rune, more int) {
	if more == 0 {
		return
	}
	for _, r := range runes {
		if next := l + string(r); wantAlike(t, x, next, visual) == keys.More {
			walk(t, x, next, visual, runes, more-1)
		}
	}
}

// All rows of two runes, and longer ones of a few of each kind.
func TestAllShortCommands(t *testing.T) {
	var one []rune
	for r := range rune(0x80) {
		one = append(one, r)
	}
	one = append(one, 0xe9, 0x4e2d, 0xfffd, 0x1f600)
	few := []rune("012\"dg~uU<fri'maz" + ctrlW + "w(xoRAQ" + escape)
	for visual, x := range tellings() {
		walk(t, x, "", visual, one, 2)
		walk(t, x, "", visual, few, 4)
	}
}

// maker makes commands by chance, most of them whole.
type maker struct{ *rand.Rand }

// one tells a rune of a text.
func (m maker) one(text string) string {
	l := []rune(text)
	return string(l[m.Intn(len(l))])
}

// count tells a count, or nothing.
func (m maker) count() string {
	switch m.Intn(8) {
	case 0:
		return m.one("123456789")
	case 1:
		return m.one("123456789") + m.one("0123456789") + m.one("0123456789")
	case 2:
		return m.one("123456789") + strings.Repeat(m.one("0123456789"), m.Intn(12))
	}
	return ""
}

// argument tells a rune that stands behind another one.
func (m maker) argument() string {
	return m.one("a0\"dgzw中\x00\n")
}

// motion tells a motion.
func (m maker) motion() string {
	switch m.Intn(4) {
	case 0:
		return "gg"
	case 1:
		return m.one(argMotions) + m.argument()
	}
	return m.one(shortMotions)
}

// command tells a command.
func (m maker) command(visual bool) string {
	l := m.count()
	for m.Intn(3) == 0 {
		l += `"` + m.argument() + m.count()
	}
	switch m.Intn(8) {
	case 0:
		return l + m.motion()
	case 1:
		return l + m.one("rm"+argMotions+"z"+ctrlW) + m.argument()
	case 2:
		return l + m.one(either(visual, visualKeys+visualOps, normalKeys))
	case 3:
		return l + m.one("ia") + m.one(objects)
	}
	if m.Intn(3) == 0 {
		l += "g" + m.one(gOperators)
	} else {
		l += m.one(operators)
	}
	l += m.count()
	switch m.Intn(3) {
	case 0:
		return l + m.one("ia") + m.one(objects)
	case 1:
		return l + l[len(l)-1:]
	}
	return l + m.motion()
}

// either tells the first text, if something is so, else the second.
func either(so bool, first, second string) string {
	if so {
		return first
	}
	return second
}

// 14.3: commands one behind the other are told one by one, as each alone.
func TestCommandsByChance(t *testing.T) {
	told := tellings()
	for seed := range int64(60) {
		m := maker{rand.New(rand.NewSource(seed))}
		p := keys.New()
		done := 0
		for range 100 {
			visual := m.Intn(2) == 0
			typed := m.command(visual)
			if m.Intn(10) == 0 { // one that is none, mostly
				typed = typed[:len(typed)-1] + m.one("Q"+escape+"g")
			}
			done += feedAlone(t, p, told[visual], typed, visual)
		}
		if done < 100 {
			t.Fatalf("there were %d commands alone", done)
		}
	}
}

// feedAlone feeds a parser runes, and Esc, which ends what is held, and fails, if it answers otherwise than a parser that is new for each command, or than the second telling; it tells how many commands there were.
func feedAlone(t *testing.T, p *keys.Parser, x telling, typed string, visual bool) int {
	t.Helper()
	done, alone, l := 0, keys.New(), ""
	for _, r := range typed + escape {
		l += string(r)
		got, how := p.Feed(r, visual)
		want, wantHow := alone.Feed(r, visual)
		if got != want || how != wantHow || !slices.Equal(p.Held(), alone.Held()) {
			t.Fatalf("%q in %q, visual %t, is %+v, %d, and not %+v, %d as alone", l, typed, visual, got, how, want, wantHow)
		}
		if want, wantHow := x.feed(l); got != want || how != wantHow {
			t.Fatalf("%q in %q, visual %t, is %+v, %d, not %+v, %d", l, typed, visual, got, how, want, wantHow)
		}
		if how != keys.More {
			alone, l = keys.New(), ""
		}
		if how == keys.Done {
			done++
		}
	}
	return done
}

// A second telling of the chapter's maps, by a map and by texts.
type plain struct {
	maps  map[string]string
	waits string
}

// do tells what Map answers, and does it.
func (x *plain) do(from, to string) api.Errno {
	_, has := x.maps[from]
	switch {
	case from == "" || len(from) > 16 || len(to) > 64:
		return api.ErrArg
	case !has && len(x.maps) >= 64:
		return api.ErrFull
	}
	x.maps[from] = to
	return api.OK
}

// undo tells what Unmap answers, and does it.
func (x *plain) undo(from string) api.Errno {
	if _, has := x.maps[from]; !has {
		return api.ErrNone
	}
	delete(x.maps, from)
	return api.OK
}

// push tells what Push answers, and does it.
func (x *plain) push(r rune) (told string, err api.Errno) {
	x.waits += string(r)
	for taken := 0; x.waits != ""; {
		longest, goesOn := "", false
		for from := range x.maps {
			if strings.HasPrefix(x.waits, from) && len(from) > len(longest) {
				longest = from
			}
			goesOn = goesOn || from != x.waits && strings.HasPrefix(from, x.waits)
		}
		switch {
		case goesOn:
			return told, api.OK
		case longest == "":
			told, x.waits = told+x.waits[:1], x.waits[1:]
		case taken == 20:
			x.waits = ""
			return told, api.ErrMap
		default:
			taken++
			x.waits = x.maps[longest] + x.waits[len(longest):]
		}
	}
	return told, api.OK
}

// text tells one of few letters, with so many of them at most.
func (m maker) text(most int) string {
	var b strings.Builder
	for range m.Intn(most + 1) {
		b.WriteString(m.one("abc"))
	}
	return b.String()
}

// step does one call by chance on a board and in the second telling, and fails, if they differ.
func (m maker) step(t *testing.T, b *keys.Board, x *plain, from, to int) {
	t.Helper()
	switch m.Intn(12) {
	case 0:
		f, g := m.text(from), m.text(to)
		if got, want := b.Map([]rune(f), []rune(g)), x.do(f, g); got != want {
			t.Fatalf("of %v Map(%q, %q) is %d, not %d", x.maps, f, g, got, want)
		}
	case 1:
		f := m.text(from)
		for have := range x.maps { // one that there is, more often
			if m.Intn(2) == 0 && len(have) < len(f) {
				f = have
			}
		}
		if got, want := b.Unmap([]rune(f)), x.undo(f); got != want {
			t.Fatalf("of %v Unmap(%q) is %d, not %d", x.maps, f, got, want)
		}
	default:
		r, waits := []rune(m.one("abcd"))[0], x.waits
		l, err := b.Push(r)
		if want, wantErr := x.push(r); string(l) != want || err != wantErr || b.Waits() != len(x.waits) {
			t.Fatalf("of %v, where %q waits, %q is %q, %d, %d, not %q, %d, %d", x.maps, waits, r, l, err, b.Waits(), want, wantErr, len(x.waits))
		}
	}
}

// 14.2: maps by chance.
func TestMapsByChance(t *testing.T) {
	for seed := range int64(400) {
		m := maker{rand.New(rand.NewSource(seed))}
		b, x := keys.NewBoard(), &plain{maps: map[string]string{}}
		from, to := 2+m.Intn(4), m.Intn(5)
		if seed%20 == 0 {
			from, to = 17, 66
		}
		for range 400 {
			m.step(t, b, x, from, to)
		}
	}
}

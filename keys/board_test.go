package keys_test

import (
	"math"
	"slices"
	"strings"
	"testing"

	"inkhorn/api"
	"inkhorn/keys"
)

// board makes one with maps: each is spelt from=to.
func board(t *testing.T, maps ...string) *keys.Board {
	t.Helper()
	b := keys.NewBoard()
	for _, m := range maps {
		from, to, _ := strings.Cut(m, "=")
		wantMap(t, b, from, to, api.OK)
	}
	return b
}

// wantMap maps runes, and fails, if that is not answered as wanted.
func wantMap(t *testing.T, b *keys.Board, from, to string, want api.Errno) {
	t.Helper()
	if got := b.Map([]rune(from), []rune(to)); got != want {
		t.Fatalf("Map(%q, %q) is %d, not %d", from, to, got, want)
	}
}

// wantUnmap unmaps runes, and fails, if that is not answered as wanted.
func wantUnmap(t *testing.T, b *keys.Board, from string, want api.Errno) {
	t.Helper()
	if got := b.Unmap([]rune(from)); got != want {
		t.Fatalf("Unmap(%q) is %d, not %d", from, got, want)
	}
}

// wantTold pushes runes, and fails, if they are not told as wanted: what each Push tells stands ahead of a blank. So many wait then.
func wantTold(t *testing.T, b *keys.Board, typed, want string, waits int) {
	t.Helper()
	var told strings.Builder
	for _, r := range typed {
		l, err := b.Push(r)
		if err != api.OK {
			t.Fatalf("of %q %q is told with %d", typed, l, err)
		}
		told.WriteString(string(l) + " ")
	}
	if got := strings.TrimSuffix(told.String(), " "); got != want || b.Waits() != waits {
		t.Fatalf("of %q %q is told and %d wait, not %q and %d", typed, got, b.Waits(), want, waits)
	}
}

// wantPush pushes a rune, and fails, if something else is told, or another error, or if others wait then.
func wantPush(t *testing.T, b *keys.Board, r rune, want string, waits int, wantErr api.Errno) {
	t.Helper()
	if l, err := b.Push(r); err != wantErr || string(l) != want || b.Waits() != waits {
		t.Fatalf("of %q %q is told, %d, and %d wait, not %q, %d, and %d", r, l, err, b.Waits(), want, wantErr, waits)
	}
}

// The examples of the chapter, and of the document.
func TestTheExamplesOfMaps(t *testing.T) {
	wantTold(t, board(t, "jj="+escape), "jj", " "+escape, 0)
	wantTold(t, board(t, "jj="+escape), "jk", " jk", 0)
}

// 14.2: NewBoard

func TestNewBoardHasNoMaps(t *testing.T) {
	b := keys.NewBoard()
	if n := b.Waits(); n != 0 {
		t.Fatalf("%d wait", n)
	}
	for _, r := range all() {
		if l, err := b.Push(r); err != api.OK || !slices.Equal(l, []rune{r}) || b.Waits() != 0 {
			t.Fatalf("of %q %q is told, %d, and %d wait", r, l, err, b.Waits())
		}
	}
}

func TestNewBoardIsNobodyElses(t *testing.T) {
	b, other := board(t, "a=b", "cd=e"), keys.NewBoard()
	wantTold(t, b, "c", "", 1)
	wantTold(t, other, "acd", "a c d", 0)
	wantUnmap(t, other, "a", api.ErrNone)
	wantTold(t, b, "d", "e", 0)
}

// 14.2: Map

func TestHowManyRunesAFromHas(t *testing.T) {
	for n, want := range map[int]api.Errno{0: api.ErrArg, 1: api.OK, 2: api.OK, 15: api.OK, 16: api.OK, 17: api.ErrArg, 18: api.ErrArg, 1000: api.ErrArg} {
		b := keys.NewBoard()
		from := strings.Repeat("a", n)
		wantMap(t, b, from, "x", want)
		if want != api.OK {
			wantTold(t, b, "aaa", "a a a", 0)
			wantUnmap(t, b, from, api.ErrNone)
			continue
		}
		wantTold(t, b, from, strings.Repeat(" ", n-1)+"x", 0)
		wantUnmap(t, b, from, api.OK)
	}
}

func TestHowManyRunesAToHas(t *testing.T) {
	for n, want := range map[int]api.Errno{0: api.OK, 1: api.OK, 63: api.OK, 64: api.OK, 65: api.ErrArg, 1000: api.ErrArg} {
		b := keys.NewBoard()
		to := strings.Repeat("x", n)
		wantMap(t, b, "a", to, want)
		if want != api.OK {
			to = "a"
		}
		wantTold(t, b, "a", to, 0)
	}
	b := keys.NewBoard()
	wantMap(t, b, "", "", api.ErrArg)
	wantMap(t, b, "", strings.Repeat("x", 65), api.ErrArg)
	wantMap(t, b, strings.Repeat("a", 17), "", api.ErrArg)
}

func TestAnErrorOfMapLeavesAllMaps(t *testing.T) {
	b := board(t, "a=x")
	wantMap(t, b, "a", strings.Repeat("y", 65), api.ErrArg)
	wantMap(t, b, "", "y", api.ErrArg)
	wantTold(t, b, "ab", "x b", 0)
}

func TestOneFromMeansWhatItWasMappedToLast(t *testing.T) {
	b := board(t, "ab=x", "ab=yz", "c=d", "ab=w")
	wantTold(t, b, "abc", " w d", 0)
	wantMap(t, b, "c", "", api.OK)
	wantTold(t, b, "cc", " ", 0)
	wantUnmap(t, b, "ab", api.OK)
	wantUnmap(t, b, "ab", api.ErrNone)
	wantTold(t, b, "ab", "a b", 0)
}

// full tells a board with MaxMaps maps: each rune from 1000 on means the small letter that its number says.
func full(t *testing.T) *keys.Board {
	t.Helper()
	b := keys.NewBoard()
	for i := range rune(api.MaxMaps) {
		wantMap(t, b, string(1000+i), string('a'+i%26), api.OK)
	}
	return b
}

// wantFull fails, if a board that full told has no longer all its maps.
func wantFull(t *testing.T, b *keys.Board) {
	t.Helper()
	for i := range rune(api.MaxMaps) {
		wantPush(t, b, 1000+i, string('a'+i%26), 0, api.OK)
	}
}

func TestMaxMaps(t *testing.T) {
	b := full(t)
	wantFull(t, b)
	wantMap(t, b, "x", "y", api.ErrFull)
	wantMap(t, b, "xx", "", api.ErrFull)
	wantMap(t, b, string(rune(1000))+"x", "", api.ErrFull) // another one, if it begins as one does
	wantMap(t, b, "", "y", api.ErrArg)                     // ErrArg comes first
	wantMap(t, b, "x", strings.Repeat("y", 65), api.ErrArg)
	wantTold(t, b, "x", "x", 0)
	wantFull(t, b)
	for _, i := range []rune{0, 20, api.MaxMaps - 1} { // one of them may be mapped anew
		from := string(1000 + i)
		wantMap(t, b, from, "new", api.OK)
		wantTold(t, b, from, "new", 0)
		wantMap(t, b, from, string('a'+i%26), api.OK)
	}
	wantMap(t, b, "x", "y", api.ErrFull)
	wantFull(t, b)
	wantUnmap(t, b, string(rune(1020)), api.OK) // there is room for one again
	wantMap(t, b, "x", "y", api.OK)
	wantMap(t, b, "z", "y", api.ErrFull)
	wantTold(t, b, "xz"+string(rune(1020)), "y z "+string(rune(1020)), 0)
}

func TestMapsOfTheSameRunesInAnyOrder(t *testing.T) {
	maps := []string{"a=1", "ab=2", "abc=3", "b=4"}
	for range 24 {
		maps = append(maps[1:], maps[0])
		wantTold(t, board(t, maps...), "abc", "  3", 0)
		wantTold(t, board(t, maps...), "abx", "  2x", 0)
		wantTold(t, board(t, maps...), "axb", " 1x 4", 0)
		maps[0], maps[1] = maps[1], maps[0]
	}
}

// 14.2: Unmap

func TestUnmapOfWhatIsNotMapped(t *testing.T) {
	b := board(t, "ab=x")
	for _, from := range []string{"", "a", "b", "abc", "x", "aB", strings.Repeat("a", 17)} {
		wantUnmap(t, b, from, api.ErrNone)
	}
	wantTold(t, b, "ab", " x", 0)
}

func TestUnmap(t *testing.T) {
	b := board(t, "a=1", "b=2", "ab=3", "c=4")
	wantUnmap(t, b, "ab", api.OK)
	wantTold(t, b, "abc", "1 2 4", 0)
	wantUnmap(t, b, "a", api.OK)
	wantUnmap(t, b, "a", api.ErrNone)
	wantTold(t, b, "abc", "a 2 4", 0)
	wantUnmap(t, b, "c", api.OK)
	wantTold(t, b, "abc", "a 2 c", 0)
	wantUnmap(t, b, "b", api.OK)
	wantUnmap(t, b, "b", api.ErrNone)
	wantTold(t, b, "abc", "a b c", 0)
	wantMap(t, b, "a", "5", api.OK)
	wantTold(t, b, "ab", "5 b", 0)
}

func TestMapAndUnmapLeaveWhatWaits(t *testing.T) {
	b := board(t, "abc=x")
	wantTold(t, b, "ab", " ", 2)
	wantUnmap(t, b, "abc", api.OK)
	if n := b.Waits(); n != 2 {
		t.Fatalf("%d wait", n)
	}
	wantPush(t, b, 'c', "abc", 0, api.OK)

	b = board(t, "abc=x")
	wantTold(t, b, "ab", " ", 2)
	wantMap(t, b, "ab", "y", api.OK)
	wantMap(t, b, "d", "z", api.OK)
	if n := b.Waits(); n != 2 {
		t.Fatalf("%d wait", n)
	}
	wantPush(t, b, 'd', "yz", 0, api.OK)

	b = board(t, "abc=x")
	wantTold(t, b, "ab", " ", 2)
	wantMap(t, b, "abc", "y", api.OK)
	wantPush(t, b, 'c', "y", 0, api.OK)
}

// 14.2: Push

func TestWhatWaits(t *testing.T) {
	b := board(t, "abcd=x", "bc=y", "e=")
	wantTold(t, b, "abc", "  ", 3)
	wantPush(t, b, 'd', "x", 0, api.OK)
	wantTold(t, b, "ab", " ", 2)
	wantPush(t, b, 'b', "a"+"b", 1, api.OK) // the last b waits for a c
	wantPush(t, b, 'c', "y", 0, api.OK)
	wantTold(t, b, "abc", "  ", 3)
	wantPush(t, b, 'b', "ay", 1, api.OK)
	wantPush(t, b, 'e', "b", 0, api.OK) // e means nothing
	wantPush(t, b, 'e', "", 0, api.OK)
	wantTold(t, b, "aab", " a ", 2)
}

func TestTheLongestFrom(t *testing.T) {
	b := board(t, "a=1", "ab=2", "abcd=3")
	wantTold(t, b, "a", "", 1)
	wantTold(t, b, "x", "1x", 0)
	wantTold(t, b, "ab", " ", 2)
	wantTold(t, b, "x", "2x", 0)
	wantTold(t, b, "abc", "  ", 3)
	wantTold(t, b, "x", "2cx", 0)
	wantTold(t, b, "abcd", "   3", 0)
	wantTold(t, b, "abca", "   2c", 1)
	wantTold(t, b, "a", "1", 1)
	wantTold(t, b, "bcabcd", "  2c   3", 0)
}

func TestAFromOf16Runes(t *testing.T) {
	b := board(t, "aaaaaaaaaaaaaaab=x")
	wantTold(t, b, strings.Repeat("a", 15), strings.Repeat(" ", 14), 15)
	wantPush(t, b, 'a', "a", 15, api.OK)
	wantPush(t, b, 'b', "x", 0, api.OK)
	wantTold(t, b, strings.Repeat("a", 15), strings.Repeat(" ", 14), 15)
	wantPush(t, b, 'c', strings.Repeat("a", 15)+"c", 0, api.OK)
}

func TestAToIsMappedToo(t *testing.T) {
	wantTold(t, board(t, "ab=c", "c=dd"), "abab", " dd  dd", 0)
	wantTold(t, board(t, "a=bc", "b=x", "c=y"), "a", "xy", 0)
	b := board(t, "a=xb", "bc=y")
	wantTold(t, b, "a", "x", 1) // what it means ends with a from's beginning
	wantTold(t, b, "c", "y", 0)
	wantTold(t, b, "ad", "x bd", 0)
	wantTold(t, b, "aa", "x bx", 1)
	b = board(t, "ab=bc", "bcd=x")
	wantTold(t, b, "ab", " ", 2) // all of it waits
	wantTold(t, b, "d", "x", 0)
	wantTold(t, b, "ab", " ", 2)
	wantTold(t, b, "c", "bcc", 0)
	b = board(t, "a=", "bb=x")
	wantTold(t, b, "ba", " b", 0) // the b is told, and the a means nothing
	wantTold(t, board(t, "a=", "bab=x"), "babbab", "  x   x", 0)
	wantTold(t, board(t, "ab=", "b=y"), "aabb", " a  y", 0)
}

func TestWhatStandsBehindATo(t *testing.T) {
	b := board(t, "ab=x", "xc=y", "abd=z")
	wantTold(t, b, "ab", " ", 2)
	wantTold(t, b, "c", "y", 0) // x, and the c that was there
	wantTold(t, b, "abd", "  z", 0)
	wantTold(t, b, "abe", "  xe", 0)
	wantTold(t, b, "aba", "  x", 1)
}

func TestAToThatBeginsWithAFrom(t *testing.T) {
	b := board(t, "a=ab")
	wantPush(t, b, 'a', "", 0, api.ErrMap)
	b = board(t, "a=ba") // told one by one: 20 froms are taken out, and each tells a b
	wantPush(t, b, 'a', strings.Repeat("b", 20), 0, api.ErrMap)
	b = board(t, "a=ab", "ab=c")
	wantPush(t, b, 'a', "", 1, api.OK)
	wantPush(t, b, 'b', "c", 0, api.OK)
	wantTold(t, b, "a", "", 1)
	wantPush(t, b, 'x', "cx", 0, api.OK) // a is ab, which is c
}

// chain maps each rune from 1000 on to the one behind it, n times, and tells the board.
func chain(t *testing.T, n rune, more ...string) *keys.Board {
	t.Helper()
	b := board(t, more...)
	for i := range n {
		wantMap(t, b, string(1000+i), string(1000+i+1), api.OK)
	}
	return b
}

func TestMaxMapFromsInOnePush(t *testing.T) {
	for n := range rune(api.MaxMap + 5) {
		b := chain(t, n)
		if n <= api.MaxMap {
			wantPush(t, b, 1000, string(1000+n), 0, api.OK)
			continue
		}
		for range 3 {
			wantPush(t, b, 1000, "", 0, api.ErrMap)
			wantPush(t, b, 1000+n-api.MaxMap, string(1000+n), 0, api.OK) // each Push counts anew
			wantPush(t, b, 'x', "x", 0, api.OK)
		}
	}
}

func TestMaxMapFromsSideBySide(t *testing.T) {
	b := board(t, "a="+strings.Repeat("b", 19), "b=c", "d=x"+strings.Repeat("b", 20), "e="+strings.Repeat("b", 19)+"fg")
	wantPush(t, b, 'a', strings.Repeat("c", 19), 0, api.OK)
	wantPush(t, b, 'd', "x"+strings.Repeat("c", 19), 0, api.ErrMap)
	wantPush(t, b, 'e', strings.Repeat("c", 19)+"fg", 0, api.OK) // what is no from is told behind the last one
	wantMap(t, b, "g", "", api.OK)
	wantPush(t, b, 'e', strings.Repeat("c", 19)+"f", 0, api.ErrMap)
	wantMap(t, b, "fgh", "", api.OK)
	wantPush(t, b, 'e', strings.Repeat("c", 19), 2, api.OK) // what waits is not taken out
	wantPush(t, b, 'h', "", 0, api.OK)
}

func TestMapsThatGoRound(t *testing.T) {
	b := board(t, "a=a", "b=c", "c=b", "de=fde", "x=")
	wantPush(t, b, 'a', "", 0, api.ErrMap)
	wantPush(t, b, 'b', "", 0, api.ErrMap)
	wantPush(t, b, 'c', "", 0, api.ErrMap)
	wantPush(t, b, 'd', "", 1, api.OK)
	wantPush(t, b, 'e', strings.Repeat("f", 20), 0, api.ErrMap)
	wantTold(t, b, "dxy", " d y", 0)
	wantPush(t, b, 'd', "", 1, api.OK)
	wantPush(t, b, 'a', "d", 0, api.ErrMap) // what was told till then, and all that waits is gone
	wantTold(t, b, "y", "y", 0)
}

func TestAllThatWaitsIsGoneBehindErrMap(t *testing.T) {
	b := board(t, "a=aXYZ", "XYZX=q", "Z=w")
	wantPush(t, b, 'a', "", 0, api.ErrMap)
	wantPush(t, b, 'X', "", 1, api.OK)
	wantPush(t, b, 'Y', "", 2, api.OK)
	wantPush(t, b, 'b', "XYb", 0, api.OK)
}

func TestALongTo(t *testing.T) {
	long := strings.Repeat("x", 63)
	b := board(t, "a="+long+"b", "b="+long+"c")
	wantPush(t, b, 'a', long+long+"c", 0, api.OK)
	wantMap(t, b, "x", strings.Repeat("x", 64), api.OK) // as much waits as ever may
	wantPush(t, b, 'a', "", 0, api.ErrMap)
	wantMap(t, b, "x", "y"+strings.Repeat("x", 63), api.OK)
	wantPush(t, b, 'x', strings.Repeat("y", 20), 0, api.ErrMap)
}

// 14.2: runes that are no characters

func TestMapsOfRunesThatAreNoCharacters(t *testing.T) {
	odd := []rune{0, -1, -2, 0xd800, 0xdfff, 0xfffd, 0x10ffff, 0x110000, math.MinInt32, math.MaxInt32}
	b := keys.NewBoard()
	for i, r := range odd {
		if err := b.Map([]rune{r, 'a'}, []rune{'a' + rune(i), r, r}); err != api.OK {
			t.Fatalf("Map of %d is %d", r, err)
		}
	}
	for i, r := range odd {
		if l, err := b.Push(r); err != api.OK || len(l) != 0 || b.Waits() != 1 {
			t.Fatalf("of %d %d is told, %d", r, l, err)
		}
		l, err := b.Push('a') // of its to the first r is told, and the second one waits
		if want := []rune{'a' + rune(i), r}; err != api.OK || !slices.Equal(l, want) || b.Waits() != 1 {
			t.Fatalf("of %d and a %d is told, %d", r, l, err)
		}
		if l, err := b.Push('x'); err != api.OK || !slices.Equal(l, []rune{r, 'x'}) || b.Waits() != 0 {
			t.Fatalf("of %d and x %d is told, %d", r, l, err)
		}
	}
	for _, r := range odd {
		if err := b.Unmap([]rune{r, 'a'}); err != api.OK {
			t.Fatalf("Unmap of %d is %d", r, err)
		}
		if err := b.Unmap([]rune{r, 'a'}); err != api.ErrNone {
			t.Fatalf("Unmap of %d once more is %d", r, err)
		}
	}
}

// 14.2: what is handed in, and what is told

func TestMapKeepsNothingThatIsHandedIn(t *testing.T) {
	from, to := []rune("abQQ"), []rune("xyQQ")
	b := keys.NewBoard()
	b.Map(from[:2], to[:2])
	copy(from, []rune("QQQQ"))
	copy(to, []rune("QQQQ"))
	wantTold(t, b, "ab", " xy", 0)
	wantMap(t, b, "ab", "other", api.OK)
	b.Unmap([]rune("ab"))
	if string(from) != "QQQQ" || string(to) != "QQQQ" {
		t.Fatalf("%q and %q are written into", from, to)
	}
}

func TestNothingHandedInIsChanged(t *testing.T) {
	from, to := []rune("abQQQQQQ"), []rune("xaQQQQQQ")
	b := keys.NewBoard()
	b.Map(from[:2], to[:2])
	b.Map(from[:1], to[:1])
	wantTold(t, b, "abab", " x x x", 1)
	b.Unmap(from[:2])
	wantTold(t, b, "cd", "xc d", 0)
	if string(from) != "abQQQQQQ" || string(to) != "xaQQQQQQ" {
		t.Fatalf("%q and %q are changed", from, to)
	}
}

func TestWhatIsToldIsNobodyElses(t *testing.T) {
	b := board(t, "a=xyz", "bcd=w", "e=eee")
	var ahead [][]rune
	for range 3 {
		for _, typed := range []string{"a", "f", "bcx", "bca"} {
			for _, r := range typed {
				l, _ := b.Push(r)
				ahead = append(ahead, l)
			}
		}
		l, err := b.Push('e')
		if err != api.ErrMap || len(l) != 0 {
			t.Fatalf("%q is told, %d", l, err)
		}
	}
	want := strings.Repeat("xyz|f|||bcx|||bcxyz|", 3)
	var got strings.Builder
	for _, l := range ahead {
		got.WriteString(string(l) + "|")
		for i := range l {
			l[i] = 'Q'
		}
		_ = append(l, 'Q', 'Q')
	}
	if got.String() != want {
		t.Fatalf("%q is told, not %q", got.String(), want)
	}
	wantTold(t, b, "afbcxbc", "xyz f   bcx  ", 2)
	l, _ := b.Push('a')
	l = append(l[:1], 'Q', 'Q', 'Q', 'Q')
	wantTold(t, b, "a", "xyz", 0)
	if string(l) != "bQQQQ" {
		t.Fatalf("%q was told", l)
	}
}

func TestWaitsIsNotInWhatIsTold(t *testing.T) {
	b := board(t, "aab=x")
	wantTold(t, b, "aa", " ", 2)
	l, _ := b.Push('a')
	_ = append(l, 'Q', 'Q')
	wantPush(t, b, 'b', "x", 0, api.OK)
}

// 14.2: on nil

func TestANilBoard(t *testing.T) {
	var b *keys.Board
	for _, from := range []string{"", "a", strings.Repeat("a", 17)} {
		wantMap(t, b, from, "b", api.ErrArg)
		wantUnmap(t, b, from, api.ErrArg)
	}
	for _, r := range []rune{'a', 0, -1} {
		wantPush(t, b, r, "", 0, api.ErrArg)
	}
}

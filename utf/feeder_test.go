package utf_test

import (
	"slices"
	"testing"

	"inkhorn/utf"
)

// wantFed feeds b to f, and fails, if f tells other runes, or then holds another number of bytes.
func wantFed(t *testing.T, f *utf.Feeder, b string, l []rune, held int) {
	t.Helper()
	if got := f.Feed([]byte(b)...); !slices.Equal(got, l) || f.Held() != held {
		t.Errorf("Feed(% X) is %X and holds %d, not %X and %d", b, got, f.Held(), l, held)
	}
}

// wantFlushed flushes f, and fails, if it tells not n times FFFD, or then holds anything.
func wantFlushed(t *testing.T, f *utf.Feeder, n int) {
	t.Helper()
	if got := f.Flush(); !slices.Equal(got, slices.Repeat([]rune{0xFFFD}, n)) || f.Held() != 0 {
		t.Errorf("Flush is %X and holds %d, not %d times FFFD and 0", got, f.Held(), n)
	}
}

// 1.3

func TestNewFeederHoldsNothing(t *testing.T) {
	f := utf.NewFeeder()
	if f == nil {
		t.Fatal("there is none")
	}
	if f.Held() != 0 {
		t.Errorf("it holds %d", f.Held())
	}
	wantFlushed(t, f, 0)
}

func TestFeedHoldsWhatIsNotDecided(t *testing.T) {
	f := utf.NewFeeder()
	wantFed(t, f, "A\xC3\xA9", []rune{0x41, 0xE9}, 0)
	wantFed(t, f, "\xF0", nil, 1)
	wantFed(t, f, "", nil, 1)
	wantFed(t, f, "\x9F", nil, 2)
	wantFed(t, f, "\x98", nil, 3)
	wantFed(t, f, "\x80B\xE2\x82", []rune{0x1F600, 0x42}, 2)
	wantFed(t, f, "\xAC\xC3", []rune{0x20AC}, 1)
	wantFed(t, f, "\xA9", []rune{0xE9}, 0)
	wantFlushed(t, f, 0)
}

func TestFeedOfWhatDoesNotGoOn(t *testing.T) {
	f := utf.NewFeeder()
	wantFed(t, f, "\xE2\x82", nil, 2)
	wantFed(t, f, "A", []rune{0xFFFD, 0xFFFD, 0x41}, 0)
	wantFed(t, f, "\xF0\x9F\x98", nil, 3)
	wantFed(t, f, "\xE2", []rune{0xFFFD, 0xFFFD, 0xFFFD}, 1)
	wantFed(t, f, "\xE2", []rune{0xFFFD}, 1)
	wantFed(t, f, "\xFF", []rune{0xFFFD, 0xFFFD}, 0)
	wantFed(t, f, "\xE0", nil, 1)
	wantFed(t, f, "\x80", []rune{0xFFFD, 0xFFFD}, 0)
	wantFed(t, f, "\xED", nil, 1)
	wantFed(t, f, "\xA0", []rune{0xFFFD, 0xFFFD}, 0)
	wantFed(t, f, "\xF4", nil, 1)
	wantFed(t, f, "\x90\x80", []rune{0xFFFD, 0xFFFD, 0xFFFD}, 0)
	wantFed(t, f, "\xC0", []rune{0xFFFD}, 0)
}

func TestFlushLetsGo(t *testing.T) {
	f := utf.NewFeeder()
	for n, b := range []string{"", "\xC3", "\xE2\x82", "\xF0\x9F\x98"} {
		wantFed(t, f, b, nil, n)
		wantFlushed(t, f, n)
		wantFlushed(t, f, 0)
	}
	wantFed(t, f, "\xE2\x82", nil, 2)
	wantFlushed(t, f, 2)
	wantFed(t, f, "\xAC", []rune{0xFFFD}, 0)
	wantFed(t, f, "\xE2\x82\xAC", []rune{0x20AC}, 0)
}

func TestNilFeederTellsNothing(t *testing.T) {
	var f *utf.Feeder
	if l := f.Feed('A', 0xE2); len(l) != 0 {
		t.Errorf("Feed is %X", l)
	}
	if l := f.Feed(); len(l) != 0 {
		t.Errorf("Feed of nothing is %X", l)
	}
	if f.Held() != 0 || len(f.Flush()) != 0 {
		t.Errorf("Held is %d, Flush %X", f.Held(), f.Flush())
	}
}

func TestFeederLeavesAndKeepsNoBytes(t *testing.T) {
	all := []byte("\x82\xACA\xE2\x82\xAC")
	b := all[:5]
	f := utf.NewFeeder()
	f.Feed(0xE2)
	if l := f.Feed(b...); !slices.Equal(l, []rune{0x20AC, 0x41}) {
		t.Errorf("Feed is %X", l)
	}
	if string(all) != "\x82\xACA\xE2\x82\xAC" {
		t.Errorf("the bytes changed: % X", all)
	}
	clear(all)
	wantFed(t, f, "\xAC", []rune{0x20AC}, 0)
}

func TestFeedersAndTheirAnswersAreApart(t *testing.T) {
	f, g := utf.NewFeeder(), utf.NewFeeder()
	f.Feed(0xE2, 0x82)
	if g.Held() != 0 {
		t.Errorf("the other one holds %d", g.Held())
	}
	first := f.Feed(0xAC)
	second := f.Feed(0xE2, 0x82, 0xAC)
	first[0] = 'x'
	if !slices.Equal(second, []rune{0x20AC}) {
		t.Errorf("an answer changed with another one: %X", second)
	}
	f.Feed(0xE2)
	first = f.Flush()
	f.Feed(0xE2)
	second = f.Flush()
	first[0] = 'x'
	if !slices.Equal(second, []rune{0xFFFD}) {
		t.Errorf("an answer changed with another one: %X", second)
	}
}

// 1.4

// fedAt tells the runes of b, cut ahead of each of the places, fed, and flushed.
func fedAt(b []byte, cuts ...int) []rune {
	f := utf.NewFeeder()
	var l []rune
	from := 0
	for _, to := range append(cuts, len(b)) {
		l = append(l, f.Feed(b[from:to]...)...)
		from = to
	}
	return append(l, f.Flush()...)
}

func TestAnyThreePiecesAreWhatDecodeTells(t *testing.T) {
	for _, s := range []string{
		"",
		"a",
		"A\xC3\xA9\xFF\xE2\x82",
		"\xE2\x82\xAC\xF0\x9F\x98\x80\xC3\xA9 \xED\x9F\xBF\xEF\xBF\xBD",
		"\xF0\x9F\xF0\x9F\x98\xE2\x82\xC3\x80\x80\xC0\x80\xED\xA0\x80\xF4\x90\x80\x80\xF5\xE0\x80\x80",
		"\xF4\x8F\xBF\xBF\xF4\x8F\xBF",
	} {
		b := []byte(s)
		want := utf.Decode(b)
		for i := range len(b) + 1 {
			for j := i; j <= len(b); j++ {
				if l := fedAt(b, i, j); !slices.Equal(l, want) {
					t.Errorf("% X cut at %d and %d is %X, not %X", b, i, j, l, want)
				}
			}
		}
	}
}

func TestEdgeBytesOneByOneAreWhatDecodeTells(t *testing.T) {
	for n := range 5 {
		edgeRows(n, func(b []byte) {
			f := utf.NewFeeder()
			var l []rune
			for _, c := range b {
				l = append(l, f.Feed(c)...)
				if f.Held() < 0 || f.Held() > 3 {
					t.Fatalf("in % X it holds %d", b, f.Held())
				}
			}
			held := f.Held()
			flushed := f.Flush()
			if len(flushed) != held || !slices.Equal(append(l, flushed...), utf.Decode(b)) {
				t.Fatalf("% X one by one is %X, not %X", b, append(l, flushed...), utf.Decode(b))
			}
		})
	}
}

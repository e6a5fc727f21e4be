package utf_test

import (
	"bytes"
	"math"
	"slices"
	"testing"
	"unicode/utf8"

	"inkhorn/utf"
)

// scalarBytes are scalars at which the number of bytes or the rule for the second byte changes, each with its bytes.
var scalarBytes = []struct {
	r rune
	b string
}{
	{0, "\x00"},
	{0x41, "A"},
	{0x7F, "\x7F"},
	{0x80, "\xC2\x80"},
	{0xE9, "\xC3\xA9"},
	{0x7FF, "\xDF\xBF"},
	{0x800, "\xE0\xA0\x80"},
	{0xFFF, "\xE0\xBF\xBF"},
	{0x1000, "\xE1\x80\x80"},
	{0x20AC, "\xE2\x82\xAC"},
	{0xD7FF, "\xED\x9F\xBF"},
	{0xE000, "\xEE\x80\x80"},
	{0xFFFD, "\xEF\xBF\xBD"},
	{0xFFFF, "\xEF\xBF\xBF"},
	{0x10000, "\xF0\x90\x80\x80"},
	{0x1F600, "\xF0\x9F\x98\x80"},
	{0x3FFFF, "\xF0\xBF\xBF\xBF"},
	{0x40000, "\xF1\x80\x80\x80"},
	{0xFFFFF, "\xF3\xBF\xBF\xBF"},
	{0x100000, "\xF4\x80\x80\x80"},
	{0x10FFFF, "\xF4\x8F\xBF\xBF"},
}

var noScalars = []rune{-1, -0x41, math.MinInt32, 0xD800, 0xDABC, 0xDFFF, 0x110000, 0x1FFFFF, math.MaxInt32}

// edgeBytes has the first and the last byte of each range that matters in UTF-8.
var edgeBytes = []byte{
	0x00, 0x41, 0x7F, 0x80, 0x8F, 0x90, 0x9F, 0xA0, 0xBF, 0xC0, 0xC1, 0xC2, 0xDF,
	0xE0, 0xE1, 0xEC, 0xED, 0xEE, 0xEF, 0xF0, 0xF1, 0xF3, 0xF4, 0xF5, 0xFF,
}

// edgeRows calls f with every row of n edge bytes.
func edgeRows(n int, f func(b []byte)) {
	row := make([]byte, n)
	var fill func(i int)
	fill = func(i int) {
		if i == n {
			f(row)
			return
		}
		for _, c := range edgeBytes {
			row[i] = c
			fill(i + 1)
		}
	}
	fill(0)
}

// eachRune calls f with all scalars, all surrogates, and some runes outside of them.
func eachRune(f func(r rune)) {
	for r := rune(-0x100); r <= 0x110100; r++ {
		f(r)
	}
	for _, r := range noScalars {
		f(r)
	}
}

// 1.1

func TestValidAtEdges(t *testing.T) {
	for _, x := range scalarBytes {
		if !utf.Valid(x.r) {
			t.Errorf("Valid(%X) is false", x.r)
		}
	}
	for _, r := range noScalars {
		if utf.Valid(r) {
			t.Errorf("Valid(%X) is true", r)
		}
	}
}

func TestLenAtEdges(t *testing.T) {
	for _, x := range scalarBytes {
		if n := utf.Len(x.r); n != len(x.b) {
			t.Errorf("Len(%X) is %d, not %d", x.r, n, len(x.b))
		}
	}
	for _, r := range noScalars {
		if n := utf.Len(r); n != 3 {
			t.Errorf("Len(%X) is %d, not 3", r, n)
		}
	}
}

func TestEncodeAtEdges(t *testing.T) {
	for _, x := range scalarBytes {
		if b := utf.Encode([]rune{x.r}); string(b) != x.b {
			t.Errorf("Encode(%X) is % X, not % X", x.r, b, x.b)
		}
	}
	for _, r := range noScalars {
		if b := utf.Encode([]rune{r}); string(b) != "\xEF\xBF\xBD" {
			t.Errorf("Encode(%X) is % X", r, b)
		}
	}
}

func TestEveryRuneIsEncodedAsTheLibraryDoes(t *testing.T) {
	eachRune(func(r rune) {
		want := utf8.AppendRune(nil, r)
		if utf.Valid(r) != utf8.ValidRune(r) || utf.Len(r) != len(want) || !bytes.Equal(utf.Encode([]rune{r}), want) {
			t.Fatalf("%X: %v, %d, % X", r, utf.Valid(r), utf.Len(r), utf.Encode([]rune{r}))
		}
	})
}

func TestEncodeOfLists(t *testing.T) {
	if b := utf.Encode(nil); len(b) != 0 {
		t.Errorf("of nil: % X", b)
	}
	if b := utf.Encode([]rune{}); len(b) != 0 {
		t.Errorf("of no runes: % X", b)
	}
	if b := utf.Encode([]rune{0x20AC, 0x41, 0xDC00, 0, 0x1F600, -1}); string(b) != "\xE2\x82\xACA\xEF\xBF\xBD\x00\xF0\x9F\x98\x80\xEF\xBF\xBD" {
		t.Errorf("of several runes: % X", b)
	}
}

func TestEncodeLeavesItsListAndHandsOutNewMemory(t *testing.T) {
	all := []rune{0x41, -1, 0xE9, 0x42}
	l := all[:3]
	first := utf.Encode(l)
	second := utf.Encode(l)
	first = append(first[:1], 'x', 'x', 'x')
	if string(second) != "A\xEF\xBF\xBD\xC3\xA9" {
		t.Errorf("an answer changed with another one: % X, % X", first, second)
	}
	if !slices.Equal(all, []rune{0x41, -1, 0xE9, 0x42}) {
		t.Errorf("the list changed: %X", all)
	}
}

// 1.2

// wantNext fails, if Next of b answers anything else.
func wantNext(t *testing.T, b string, r rune, n int, more bool) {
	t.Helper()
	if gotR, gotN, gotMore := utf.Next([]byte(b)); gotR != r || gotN != n || gotMore != more {
		t.Errorf("Next(% X) is %X, %d, %v, not %X, %d, %v", b, gotR, gotN, gotMore, r, n, more)
	}
}

// wantNextAsTheLibrary fails, if Next of b answers anything else than the library tells of it.
func wantNextAsTheLibrary(t *testing.T, b []byte) {
	t.Helper()
	if !utf8.FullRune(b) {
		wantNext(t, string(b), 0, 0, true)
		return
	}
	r, n := utf8.DecodeRune(b)
	wantNext(t, string(b), r, n, false)
}

func TestNextOfScalars(t *testing.T) {
	for _, x := range scalarBytes {
		for _, behind := range []string{"", "A", "\x80", "\xFF", "\xE2\x82"} {
			wantNext(t, x.b+behind, x.r, len(x.b), false)
		}
	}
}

func TestNextOfPartsOfScalars(t *testing.T) {
	for _, x := range scalarBytes {
		for n := range len(x.b) {
			wantNext(t, x.b[:n], 0, 0, true)
			if n > 0 {
				wantNext(t, x.b[:n]+"A", 0xFFFD, 1, false)
				wantNext(t, x.b[:n]+"\xC2\x80", 0xFFFD, 1, false)
			}
		}
	}
	if r, n, more := utf.Next(nil); r != 0 || n != 0 || !more {
		t.Errorf("Next(nil) is %X, %d, %v", r, n, more)
	}
}

func TestNextOfWhatBeginsNoScalar(t *testing.T) {
	for _, b := range []string{
		"\x80", "\xBF", "\xBFA", // bytes that only go on
		"\xC0", "\xC0\x80", "\xC1", "\xC1\xBF", // too long for one byte's runes
		"\xE0\x80", "\xE0\x9F", "\xE0\x9F\xBF", // for two bytes'
		"\xF0\x80", "\xF0\x8F", "\xF0\x8F\xBF\xBF", // for three bytes'
		"\xED\xA0", "\xED\xBF", "\xED\xA0\x80", "\xED\xBF\xBF", // surrogates
		"\xF4\x90", "\xF4\xBF", "\xF4\x90\x80\x80", // above 10FFFF
		"\xF5", "\xF5\x80\x80\x80", "\xF8\x88\x80\x80\x80", "\xFE", "\xFF",
		"\xE2A", "\xE2\x82A", "\xE2\xC2", "\xF0\x9FA", "\xF0\x9F\x98A", "\xF0\x9F\x98\xC0",
	} {
		wantNext(t, b, 0xFFFD, 1, false)
	}
}

func TestNextOfEveryRune(t *testing.T) {
	eachRune(func(r rune) {
		wantNextAsTheLibrary(t, utf8.AppendRune(nil, r))
	})
}

func TestNextOfEdgeBytes(t *testing.T) {
	for n := range 5 {
		edgeRows(n, func(b []byte) { wantNextAsTheLibrary(t, b) })
	}
}

func TestNextOfEveryPairOfBytes(t *testing.T) {
	for c := range 0x10000 {
		wantNextAsTheLibrary(t, []byte{byte(c >> 8), byte(c)})
	}
}

func TestDecode(t *testing.T) {
	for _, x := range []struct {
		b string
		l []rune
	}{
		{"", nil},
		{"A\xC3\xA9\xFF\xE2\x82", []rune{0x41, 0xE9, 0xFFFD, 0xFFFD, 0xFFFD}},
		{"\xE2\x82\xAC\xF0\x9F\x98\x80", []rune{0x20AC, 0x1F600}},
		{"\x00\x0A\x7F", []rune{0, 10, 0x7F}},
		{"\xEF\xBF\xBD", []rune{0xFFFD}},
		{"\xF0\x9F\x98", []rune{0xFFFD, 0xFFFD, 0xFFFD}}, // more is wanted
		{"\xC3", []rune{0xFFFD}},
		{"\xC0\x80", []rune{0xFFFD, 0xFFFD}},
		{"\xED\xA0\x80", []rune{0xFFFD, 0xFFFD, 0xFFFD}},
		{"\xF4\x90\x80\x80", []rune{0xFFFD, 0xFFFD, 0xFFFD, 0xFFFD}},
		{"\xE2\x82A", []rune{0xFFFD, 0xFFFD, 0x41}}, // the second byte is looked at anew
		{"\xE2\xC3\xA9", []rune{0xFFFD, 0xE9}},
		{"\xF0\x9F\xF0\x9F\x98\x80", []rune{0xFFFD, 0xFFFD, 0x1F600}},
	} {
		if l := utf.Decode([]byte(x.b)); !slices.Equal(l, x.l) {
			t.Errorf("Decode(% X) is %X, not %X", x.b, l, x.l)
		}
	}
	if l := utf.Decode(nil); len(l) != 0 {
		t.Errorf("Decode(nil) is %X", l)
	}
}

func TestDecodeOfEdgeBytesIsWhatTheLanguageDoes(t *testing.T) {
	for n := range 5 {
		edgeRows(n, func(b []byte) {
			if l := utf.Decode(b); !slices.Equal(l, []rune(string(b))) {
				t.Fatalf("Decode(% X) is %X, not %X", b, l, []rune(string(b)))
			}
		})
	}
}

func TestDecodeLeavesItsBytesAndHandsOutNewMemory(t *testing.T) {
	all := []byte("A\xE2\x82\xAC")
	b := all[:3]
	first := utf.Decode(b)
	second := utf.Decode(b)
	for i := range first {
		first[i] = 'x'
	}
	if !slices.Equal(second, []rune{0x41, 0xFFFD, 0xFFFD}) {
		t.Errorf("an answer changed with another one: %X", second)
	}
	if string(all) != "A\xE2\x82\xAC" {
		t.Errorf("the bytes changed: % X", all)
	}
}

// 1.4

func TestDecodeOfEncodeIsTheList(t *testing.T) {
	var l, want []rune
	eachRune(func(r rune) {
		l = append(l, r)
		if r < 0 || 0xD800 <= r && r <= 0xDFFF || r > 0x10FFFF {
			r = 0xFFFD
		}
		want = append(want, r)
	})
	if !slices.Equal(utf.Decode(utf.Encode(l)), want) {
		t.Error("all runes, one behind the other, do not come back")
	}
	for _, l := range [][]rune{nil, {0x41}, {0x1F600, 10, 0xE9}, {0x20AC, 0x20AC}} {
		if got := utf.Decode(utf.Encode(l)); !slices.Equal(got, l) {
			t.Errorf("%X came back as %X", l, got)
		}
	}
}

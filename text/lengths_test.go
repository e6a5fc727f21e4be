package text

import (
	"slices"
	"testing"
)

// wantLengths fails, if the lengths are others, a sum is not its block's, or there are more blocks than there may be.
func wantLengths(t *testing.T, l *lengths, want []int) {
	t.Helper()
	var got []int
	for i, b := range l.blocks {
		if len(b.lengths) == 0 || len(b.lengths) > mostLines {
			t.Fatalf("a block has %d lines", len(b.lengths))
		}
		if b.sum != sum(b.lengths) {
			t.Fatalf("a block's sum is %d, not %d", b.sum, sum(b.lengths))
		}
		if i > 0 && len(b.lengths)+len(l.blocks[i-1].lengths) <= mostLines/2 {
			t.Fatalf("two neighbours have %d and %d lines", len(l.blocks[i-1].lengths), len(b.lengths))
		}
		got = append(got, b.lengths...)
	}
	if l.count != len(want) || !slices.Equal(got, want) {
		t.Fatalf("there are %d lengths (count %d), not %d, or others", len(got), l.count, len(want))
	}
}

// counted tells n numbers from a first one on.
func counted(first, n int) []int {
	l := make([]int, n)
	for i := range l {
		l[i] = first + i
	}
	return l
}

func TestBlocksAtTheirEdges(t *testing.T) {
	const full = 3 * mostLines
	for _, at := range []int{0, 1, mostLines - 1, mostLines, mostLines + 1, 2 * mostLines, full - 1, full} {
		for _, n := range []int{0, 1, mostLines - 1, mostLines, mostLines + 1, full - 1, full} {
			for _, put := range []int{0, 1, mostLines, mostLines + 1, full} {
				if n > full-at {
					continue
				}
				l := &lengths{}
				have, with := counted(0, full), counted(10000, put)
				l.replace(0, 0, have)
				l.replace(at, n, with)
				wantLengths(t, l, slices.Concat(have[:at], with, have[at+n:]))
			}
		}
	}
}

func TestBlocksOfManyDeeds(t *testing.T) {
	l := &lengths{}
	var want []int
	seed := uint64(1)
	roll := func(n int) int {
		seed = seed*6364136223846793005 + 1442695040888963407
		return int(seed>>33) % n
	}
	for range 4000 {
		most := 3
		if roll(100) == 0 {
			most = 1000
		}
		at := roll(len(want) + 1)
		n := roll(min(len(want)-at, most) + 1)
		with := counted(roll(100), roll(most+1))
		l.replace(at, n, slices.Clone(with))
		want = slices.Replace(want, at, at+n, with...)
		wantLengths(t, l, want)
	}
}

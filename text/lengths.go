package text

import (
	"slices"

	"inkhorn/api"
)

// mostLines is how many lines a block may have: the root of MaxRunes, so that in a text of the most lines a block is gone through about as fast as all blocks are.
const mostLines = 256

// block is some lines' lengths, one at least. Its list is never written again, as blocks that were cut from one list share it.
type block struct {
	lengths []int
	sum     int
}

// size tells how many runes the lines of a block have, an end of each counted.
func (b block) size() int {
	return b.sum + len(b.lengths)
}

// lengths is how many runes each line has, in blocks: what is ahead of a line is told without going through all lines that are.
type lengths struct {
	blocks []block
	count  int // of lines
}

// line tells how many runes are ahead of a line, the ends of the lines there counted, and how many it has; behind the last line, what would be ahead of one more, and 0.
func (l *lengths) line(i int) (ahead, n int) {
	within, i := l.find(i)
	for _, b := range l.blocks[:within] {
		ahead += b.size()
	}
	if within == len(l.blocks) {
		return ahead, 0
	}
	list := l.blocks[within].lengths
	return ahead + sum(list[:i]) + i, list[i]
}

// place tells which place has n runes ahead of it: there is one.
func (l *lengths) place(n int) api.Pos {
	p := api.Pos{Col: n}
	within := 0
	for p.Col >= l.blocks[within].size() {
		p.Col -= l.blocks[within].size()
		p.Line += len(l.blocks[within].lengths)
		within++
	}
	for _, length := range l.blocks[within].lengths {
		if p.Col <= length {
			break
		}
		p.Col -= length + 1
		p.Line++
	}
	return p
}

// find tells which block has a line, and which of the block's lines it is; behind the last line, the number of blocks, and 0.
func (l *lengths) find(i int) (within, of int) {
	for k, b := range l.blocks {
		if i < len(b.lengths) {
			return k, i
		}
		i -= len(b.lengths)
	}
	return len(l.blocks), 0
}

// replace puts lengths in the place of those of n lines. Where few are left, whole neighbours are taken in as long as all are one block: so any two neighbours have more than half a block's lines, and there are never many blocks of few lines.
func (l *lengths) replace(at, n int, with []int) {
	l.count += len(with) - n
	from, head := l.find(at)
	to, tail := l.find(at + n)
	if tail > 0 {
		with = slices.Concat(with, l.blocks[to].lengths[tail:])
		to++
	}
	if head > 0 {
		with = slices.Concat(l.blocks[from].lengths[:head], with)
	}
	for to < len(l.blocks) && len(with)+len(l.blocks[to].lengths) <= mostLines {
		with = slices.Concat(with, l.blocks[to].lengths)
		to++
	}
	for from > 0 && len(with)+len(l.blocks[from-1].lengths) <= mostLines {
		from--
		with = slices.Concat(l.blocks[from].lengths, with)
	}
	l.blocks = slices.Replace(l.blocks, from, to, blocksOf(with)...)
}

// blocksOf cuts lengths into as few blocks as they need, of as many lines each as they can.
func blocksOf(with []int) []block {
	l := make([]block, (len(with)+mostLines-1)/mostLines)
	for i := range l {
		list := with[i*len(with)/len(l) : (i+1)*len(with)/len(l)]
		l[i] = block{lengths: list, sum: sum(list)}
	}
	return l
}

// sum tells how much numbers are in all.
func sum(l []int) int {
	n := 0
	for _, k := range l {
		n += k
	}
	return n
}

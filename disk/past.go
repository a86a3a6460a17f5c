package disk

import (
	"sort"

	"signet/api"
)

// moment is a raw step and a block.
type moment struct {
	step, at int
}

// past is what blocks were when raw steps began. Only what was new at a step is kept, so that a step costs as much as it changed.
type past struct {
	held  map[moment]api.Block
	steps [][]int // of each block, the steps at which it held something new, rising
}

// newPast is the past of blocks that were zero ahead of all steps.
func newPast(blocks int) past {
	return past{held: map[moment]api.Block{}, steps: make([][]int, blocks)}
}

// keep tells what a block holds from a raw step on that has not begun; it stands in place of what was told of that step ahead.
func (p past) keep(step, at int, b api.Block) {
	m := moment{step, at}
	if _, is := p.held[m]; !is {
		p.steps[at] = append(p.steps[at], step)
	}
	p.held[m] = b
}

// was is what a block was at a raw step.
func (p past) was(step, at int) api.Block {
	l := p.steps[at]
	n := sort.SearchInts(l, step+1)
	if n == 0 {
		return api.Block{}
	}
	return p.held[moment{l[n-1], at}]
}

// At is all blocks as they were at a raw step.
func (d *Disk) At(k int) ([]api.Block, bool) {
	if k < 0 || k >= d.Ops() {
		return nil, false
	}
	l := make([]api.Block, len(d.now))
	for at := range l {
		l[at] = d.past.was(k, at)
	}
	return l, true
}

// Since is the blocks that are other than they were at a raw step.
func (d *Disk) Since(k int) ([]int, bool) {
	if k < 0 || k >= d.Ops() {
		return nil, false
	}
	var l []int
	for at, b := range d.now {
		if d.past.was(k, at) != b {
			l = append(l, at)
		}
	}
	return l, true
}

package inodes

import (
	"signet/api"
	"signet/inode"
	"signet/tree"
)

// held is an inode as it is committed, and as it is now.
type held struct {
	old api.Inode
	now api.Info // zero, if it is not in use
	// So many of the committed leaves are left: those behind them went when the inode was smaller, and do not come back.
	left int
	set  bool // whether one of its leaves was set
}

// committed is an inode that has not changed.
func committed(number int, old api.Inode) held {
	h := held{old: old, left: leavesOf(old.Size)}
	if old.Kind != api.KindNone {
		h.now = api.Info{Number: number, Kind: old.Kind, Links: old.Links, Size: old.Size, Stamp: old.Stamp}
	}
	return h
}

// inUse tells whether an inode is in use now.
func (h held) inUse() bool {
	return h.now.Kind != api.KindNone
}

// leavesOf is how many leaves so many bytes take.
func leavesOf(size int) int {
	many, _ := inode.Leaves(size)
	return many
}

// leavesTo is how many leaves a table takes for the numbers up to high.
func leavesTo(high int) int {
	return (high + perLeaf - 1) / perLeaf
}

// numberAt is the number of the inode at a place in a leaf of the table.
func numberAt(leaf, place int) int {
	return leaf*perLeaf + place + 1
}

// four is the inodes in a leaf of the table.
func (x *Inodes) four(leaf int) ([perLeaf]held, api.Errno) {
	at := leafAt(ofTable, leaf)
	four, is := x.fours[at]
	if is || leaf >= leavesTo(x.high) {
		return four, api.OK
	}
	b, err := tree.Leaf(x.cache, x.table, leaf)
	if err != api.OK {
		return four, err
	}
	olds, _, err := inode.FromLeaf(b)
	if err != api.OK {
		return four, err
	}
	for place, old := range olds {
		four[place] = committed(numberAt(leaf, place), old)
	}
	x.fours[at] = four
	return four, api.OK
}

// wrong is what is told of a number that is no inode's, ahead of all that has to be read.
func (x *Inodes) wrong(n int) api.Errno {
	if x == nil {
		return api.ErrArg
	}
	_, _, err := inode.Place(n)
	return err
}

// used is an inode that must be in use.
func (x *Inodes) used(n int) (held, api.Errno) {
	if err := x.wrong(n); err != api.OK {
		return held{}, err
	}
	leaf, place, _ := inode.Place(n)
	four, err := x.four(leaf)
	if err != api.OK {
		return held{}, err
	}
	if !four[place].inUse() {
		return held{}, api.ErrNone
	}
	return four[place], api.OK
}

// surely tells whether a number is known to be in use without reading.
func (x *Inodes) surely(n int) bool {
	leaf, place, _ := inode.Place(n)
	if four, is := x.fours[leafAt(ofTable, leaf)]; is {
		return four[place].inUse()
	}
	// The highest committed number was in use, and is, as its leaf was not even read.
	return n == x.high
}

// put keeps an inode, whose leaf of the table is kept, or was never committed.
func (x *Inodes) put(n int, h held) {
	leaf, place, _ := inode.Place(n)
	at := leafAt(ofTable, leaf)
	four := x.fours[at]
	four[place] = h
	x.fours[at] = four
}

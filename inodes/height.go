package inodes

import (
	"slices"

	"signet/api"
	"signet/inode"
	"signet/node"
	"signet/tree"
)

// height is the least height of the table for the numbers in use. No leaf of the table is read for it: what is new is known even where leaves that nothing changed are lost.
func (x *Inodes) height() (int, api.Errno) {
	height, _ := inode.Table(x.top)
	if x.surely(x.top) {
		return height, api.OK
	}
	looked := x.looked()
	for ; height > 0; height-- {
		for kid := 1; kid < api.Fan; kid++ {
			in, err := x.beneath(height-1, kid, looked)
			if in || err != api.OK {
				return height, err
			}
		}
	}
	return 0, api.OK
}

// beneath tells whether an inode in use hangs beneath a position of the table, where these leaves were looked at.
func (x *Inodes) beneath(level, place int, looked []int) (bool, api.Errno) {
	looked = within(looked, level, place)
	if len(looked) == 0 {
		return x.was(level, place)
	}
	if level == 0 {
		four := x.fours[leafAt(ofTable, place)]
		return slices.ContainsFunc(four[:], func(h held) bool { return h.inUse() }), api.OK
	}
	for kid := range api.Fan {
		in, err := x.beneath(level-1, place*api.Fan+kid, looked)
		if in || err != api.OK {
			return in, err
		}
	}
	return false, api.OK
}

// within is those of some leaves, which rise, that hang beneath a position.
func within(leaves []int, level, place int) []int {
	many, _ := tree.Capacity(level)
	from, _ := slices.BinarySearch(leaves, place*many)
	to, _ := slices.BinarySearch(leaves, (place+1)*many)
	return leaves[from:to]
}

// was tells whether the committed table has something at a position: what is all zero is none there.
func (x *Inodes) was(level, place int) (bool, api.Errno) {
	r, err := tree.Ref(x.cache, x.table, level, place)
	if err == api.ErrPlace {
		return false, api.OK
	}
	return !node.None(r), err
}

package inodes

import (
	"slices"

	"signet/api"
	"signet/grow"
	"signet/inode"
	"signet/tree"
)

// bytes is an inode's tree as it grows beside the committed one.
func (x *Inodes) bytes(number int, h held) *grow.Grow {
	g, _ := grow.New(x.cache, h.old.Tree)
	if h.left < leavesOf(h.old.Size) {
		g.Fit(h.left)
	}
	height, _ := inode.Height(h.now.Size)
	fit(g, height)
	for place := range leavesOf(h.now.Size) {
		if b, is := x.leaves[leafAt(number, place)]; is {
			g.Set(place, b)
		}
	}
	return g
}

// fit makes a tree so high, if it is not yet: for a Fit that takes nothing away blocks would be read in vain.
func fit(g *grow.Grow, height int) {
	if height != g.Height() {
		leaves, _ := tree.Capacity(height)
		g.Fit(leaves)
	}
}

// grown is the table as it grows beside the committed one. What the bytes of each inode will be is told by lay, lower numbers first.
func (x *Inodes) grown(lay func(number int, h held) (api.Tree, api.Errno)) (*grow.Grow, api.Errno) {
	height, err := x.height()
	if err != api.OK {
		return nil, err
	}
	table, _ := grow.New(x.cache, x.table)
	fit(table, height)
	for _, leaf := range x.looked() {
		was, is, err := x.fourOf(leaf, lay)
		if err != api.OK {
			return nil, err
		}
		if was == is {
			continue
		}
		b, _, err := inode.Leaf(is)
		if err != api.OK {
			return nil, err
		}
		// Where the table is too low for the leaf by now, no inode is in it, and nothing has to be set.
		table.Set(leaf, b)
	}
	return table, api.OK
}

// looked is the leaves of the table that were read or changed, rising.
func (x *Inodes) looked() []int {
	var looked []int
	for at := range x.fours {
		looked = append(looked, at.place)
	}
	slices.Sort(looked)
	return looked
}

// fourOf is the inodes in a leaf of the table that was looked at, as they are committed and as they will stand.
func (x *Inodes) fourOf(leaf int, lay func(number int, h held) (api.Tree, api.Errno)) (was, is [perLeaf]api.Inode, err api.Errno) {
	for place, h := range x.fours[leafAt(ofTable, leaf)] {
		was[place], is[place] = h.old, h.old
		number := numberAt(leaf, place)
		if h == committed(number, h.old) {
			continue
		}
		t, err := lay(number, h)
		if err != api.OK {
			return was, was, err
		}
		is[place] = api.Inode{Kind: h.now.Kind, Links: h.now.Links, Size: h.now.Size, Stamp: h.now.Stamp, Tree: t}
	}
	return was, is, api.OK
}

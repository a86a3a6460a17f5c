package inodes

import (
	"signet/api"
	"signet/tree"
)

// wrongLeaf is what is told of a number that is no inode's, or of a place at which none has a leaf.
func (x *Inodes) wrongLeaf(n, place int) api.Errno {
	if err := x.wrong(n); err != api.OK {
		return err
	}
	if place < 0 || place >= maxLeaves {
		return api.ErrPlace
	}
	return api.OK
}

// Leaf is a leaf of an inode.
func (x *Inodes) Leaf(n, place int) (api.Block, api.Errno) {
	if err := x.wrongLeaf(n, place); err != api.OK {
		return api.Block{}, err
	}
	h, err := x.used(n)
	if err != api.OK {
		return api.Block{}, err
	}
	return x.leafOf(h, place)
}

// leafOf is a leaf of an inode in use.
func (x *Inodes) leafOf(h held, place int) (api.Block, api.Errno) {
	b, is := x.leaves[leafAt(h.now.Number, place)]
	if is || place >= h.left {
		return b, api.OK
	}
	return tree.Leaf(x.cache, h.old.Tree, place)
}

// Set lays a leaf of an inode.
func (x *Inodes) Set(n, place int, b api.Block, stamp uint64) api.Errno {
	if err := x.wrongLeaf(n, place); err != api.OK {
		return err
	}
	return x.change(n, func(h *held) api.Errno {
		if place >= leavesOf(h.now.Size) {
			return api.ErrPlace
		}
		x.set(h, place, upTo(b, h.now.Size-place*api.BlockBytes))
		h.now.Stamp = stamp
		return api.OK
	})
}

// set keeps a leaf of an inode.
func (x *Inodes) set(h *held, place int, b api.Block) {
	x.leaves[leafAt(h.now.Number, place)] = b
	h.set = true
	delete(x.counts, h.now.Number)
}

// upTo is so many bytes of a leaf, with zeros behind them.
func upTo(b api.Block, bytes int) api.Block {
	clear(b[min(bytes, api.BlockBytes):])
	return b
}

// resize makes an inode in use as long as a size that it may have.
func (x *Inodes) resize(h *held, size int) api.Errno {
	if part := size % api.BlockBytes; part > 0 && size < h.now.Size {
		last := size / api.BlockBytes
		b, err := x.leafOf(*h, last)
		if err != api.OK {
			return err
		}
		// Bytes that come again must be zero.
		x.set(h, last, upTo(b, part))
	}
	for place := leavesOf(size); place < leavesOf(h.now.Size); place++ {
		delete(x.leaves, leafAt(h.now.Number, place))
	}
	h.left = min(h.left, leavesOf(size))
	h.now.Size = size
	delete(x.counts, h.now.Number)
	return api.OK
}

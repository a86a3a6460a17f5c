package inodes

import (
	"signet/api"
	"signet/inode"
)

// Make is a new inode.
func (x *Inodes) Make(kind int, stamp uint64) (int, api.Errno) {
	if x == nil || kind != api.KindFile && kind != api.KindDir {
		return 0, api.ErrArg
	}
	n, h, err := x.free()
	if err != api.OK {
		return 0, err
	}
	h.now = api.Info{Number: n, Kind: kind, Links: 1, Stamp: stamp}
	x.put(n, h)
	x.top = max(x.top, n)
	return n, api.OK
}

// free is the least number that is not in use, and what it was.
func (x *Inodes) free() (int, held, api.Errno) {
	for leaf := range leavesTo(api.MaxInodes) {
		four, err := x.four(leaf)
		if err != api.OK {
			return 0, held{}, err
		}
		for place, h := range four {
			if !h.inUse() {
				return numberAt(leaf, place), h, api.OK
			}
		}
	}
	return 0, held{}, api.ErrInodes
}

// change does something with an inode in use, which is kept if nothing was wrong.
func (x *Inodes) change(n int, do func(h *held) api.Errno) api.Errno {
	h, err := x.used(n)
	if err != api.OK {
		return err
	}
	if err := do(&h); err != api.OK {
		return err
	}
	x.put(n, h)
	return api.OK
}

// Touch lays an inode's stamp.
func (x *Inodes) Touch(n int, stamp uint64) api.Errno {
	return x.change(n, func(h *held) api.Errno {
		h.now.Stamp = stamp
		return api.OK
	})
}

// Links changes how many entries name an inode.
func (x *Inodes) Links(n, by int, stamp uint64) api.Errno {
	return x.change(n, func(h *held) api.Errno {
		links := h.now.Links
		// The sum of both could pass the greatest int; these differences can't.
		if by < 1-links || by > api.MaxLinks-links || h.now.Kind == api.KindDir && by != 0 {
			return api.ErrLinks
		}
		h.now.Links, h.now.Stamp = links+by, stamp
		return api.OK
	})
}

// Drop takes an inode out of use.
func (x *Inodes) Drop(n int) api.Errno {
	return x.change(n, func(h *held) api.Errno {
		if err := x.resize(h, 0); err != api.OK {
			return err
		}
		h.now = api.Info{}
		return api.OK
	})
}

// Resize lays an inode's size.
func (x *Inodes) Resize(n, size int, stamp uint64) api.Errno {
	if err := x.wrong(n); err != api.OK {
		return err
	}
	if _, err := inode.Leaves(size); err != api.OK {
		return err
	}
	return x.change(n, func(h *held) api.Errno {
		if h.now.Kind == api.KindDir && size%api.EntryBytes != 0 {
			return api.ErrArg
		}
		h.now.Stamp = stamp
		return x.resize(h, size)
	})
}

package mount

import (
	"signet/api"
	"signet/cache"
	"signet/digest"
	"signet/disk"
	"signet/grow"
	"signet/inodes"
	"signet/room"
	"signet/slot"
	"signet/super"
)

// first is the counter of a fresh tree, and the stamp of what it has.
const first = 1

// Format makes a system of a fresh tree.
func Format(d *disk.Disk, r *slot.Register, l *digest.Log) api.Errno {
	c, s, err := begin(d, r, l, 0)
	if err != api.OK {
		return err
	}
	if s != (api.Slot{}) {
		return api.ErrFormat
	}
	root, err := writeFresh(c)
	if err != api.OK {
		return err
	}
	if err := d.Barrier(); err != api.OK {
		return err
	}
	return r.Write(api.Slot{Counter: first, Root: root})
}

// writeFresh writes a fresh tree, and tells its root block's reference.
func writeFresh(c *cache.Cache) (api.Ref, api.Errno) {
	writes, err := layFresh(c)
	if err != api.OK {
		return api.Ref{}, err
	}
	var last api.Ref
	for _, w := range writes {
		if last, err = c.Put(w.At, w.Data); err != api.OK {
			return api.Ref{}, err
		}
	}
	return last, api.OK
}

// layFresh lays out a fresh tree, the root block last.
func layFresh(c *cache.Cache) ([]api.Write, api.Errno) {
	blocks := c.Disk().Blocks()
	m, _, err := room.New(blocks, nil)
	if err != api.OK {
		return nil, err
	}
	used, err := Least(blocks)
	if err != api.OK {
		return nil, err
	}
	// The map has its own blocks' bits, too. A copy of the room tells ahead which blocks will be taken.
	ahead := m.Copy()
	if _, err := ahead.TakeMany(used); err != api.OK {
		return nil, err
	}
	out, err := layTable(c, m.Take)
	if err != api.OK {
		return nil, err
	}
	mapTree, writes, err := layMap(c, ahead.Leaves(), m.Take)
	if err != api.OK {
		return nil, err
	}
	at, err := m.Take()
	if err != api.OK {
		return nil, err
	}
	b, err := super.Encode(api.Super{Blocks: blocks, Counter: first, Table: out.Table, Inodes: out.High, Map: mapTree, Used: used})
	return append(append(out.Writes, writes...), api.Write{At: at, Data: b}), err
}

// layTable lays out a table that has the root directory alone.
func layTable(c *cache.Cache, take func() (uint32, api.Errno)) (api.Out, api.Errno) {
	x, err := inodes.Open(c, api.Tree{}, 0)
	if err != api.OK {
		return api.Out{}, err
	}
	if _, err := x.Make(api.KindDir, first); err != api.OK {
		return api.Out{}, err
	}
	return x.Out(take)
}

// layMap lays out the tree of a map's leaves.
func layMap(c *cache.Cache, leaves []api.Block, take func() (uint32, api.Errno)) (api.Tree, []api.Write, api.Errno) {
	g, err := grow.New(c, api.Tree{})
	if err != api.OK {
		return api.Tree{}, nil, err
	}
	if err := g.Fit(len(leaves)); err != api.OK {
		return api.Tree{}, nil, err
	}
	for place, b := range leaves {
		if err := g.Set(place, b); err != api.OK {
			return api.Tree{}, nil, err
		}
	}
	return g.Lay(take)
}

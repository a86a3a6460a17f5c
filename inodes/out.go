package inodes

import (
	"slices"

	"signet/api"
	"signet/grow"
)

// Out lays out what is new.
func (x *Inodes) Out(take func() (uint32, api.Errno)) (api.Out, api.Errno) {
	if x == nil || take == nil {
		return api.Out{}, api.ErrArg
	}
	// A take that changes the inodes changes nothing of what is laid out.
	x = x.Clone()
	high, err := x.High()
	if err != api.OK {
		return api.Out{}, err
	}
	out := api.Out{High: high}
	lay := func(g *grow.Grow) (api.Tree, api.Errno) {
		gone, err := g.Gone()
		if err != api.OK {
			return api.Tree{}, err
		}
		t, writes, err := g.Lay(func() (uint32, api.Errno) { return numberFrom(take) })
		out.Let = append(out.Let, gone...)
		out.Writes = append(out.Writes, writes...)
		return t, err
	}
	table, err := x.grown(func(number int, h held) (api.Tree, api.Errno) { return lay(x.bytes(number, h)) })
	if err != api.OK {
		return api.Out{}, err
	}
	out.Table, err = lay(table)
	if err != api.OK {
		return api.Out{}, err
	}
	slices.Sort(out.Let)
	out.Let = slices.Compact(out.Let)
	return out, api.OK
}

// numberFrom is the number of a block that is taken.
func numberFrom(take func() (uint32, api.Errno)) (uint32, api.Errno) {
	at, err := take()
	if err == api.OK && at >= api.MaxBlocks {
		// No disk has such a block, and no inode may refer to it.
		return 0, api.ErrArg
	}
	return at, err
}

// New is how many positions are new.
func (x *Inodes) New() (int, api.Errno) {
	if x == nil {
		return 0, api.OK
	}
	many := 0
	table, err := x.grown(func(number int, h held) (api.Tree, api.Errno) {
		c, err := x.count(number, h)
		many += c.fresh
		return c.tree, err
	})
	if err != api.OK {
		return 0, err
	}
	fresh, err := table.Fresh()
	if err != api.OK {
		return 0, err
	}
	return many + fresh, api.OK
}

// count is what is known of an inode's bytes without laying them out.
type count struct {
	fresh int // how many positions are new
	// The tree that the bytes will be, if nothing is new. Else it is any that is not the committed one: so the inode is another one, too.
	tree api.Tree
}

// count counts what is new of an inode's bytes.
func (x *Inodes) count(number int, h held) (count, api.Errno) {
	if c, is := x.counts[number]; is {
		return c, api.OK
	}
	bytes := x.bytes(number, h)
	fresh, err := bytes.Fresh()
	if err != api.OK {
		return count{}, err
	}
	c := count{fresh, another(bytes)}
	if fresh == 0 {
		c.tree, _, err = bytes.Lay(func() (uint32, api.Errno) { return 0, api.ErrNoSpace })
	}
	if err != api.OK {
		return count{}, err
	}
	x.counts[number] = c
	return c, api.OK
}

// another is a tree as high as a grown one, and with another root than the standing one has.
func another(g *grow.Grow) api.Tree {
	root := api.Ref{At: 1, Sum: g.Standing().Root.Sum}
	root.Sum[0]++
	return api.Tree{Height: g.Height(), Root: root}
}

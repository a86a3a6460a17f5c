package grow

import (
	"slices"

	"signet/api"
	"signet/node"
	"signet/tree"
)

// Fresh is how many positions are new.
func (g *Grow) Fresh() (int, api.Errno) {
	if g == nil {
		return 0, api.ErrArg
	}
	top, err := g.look()
	if err != api.OK {
		return 0, err
	}
	return len(top.news()), api.OK
}

// news is what is new, in the order in which it is laid out: a node stands behind what it refers to.
func (p *part) news() []*part {
	var levels [api.MaxHeight + 1][]*part
	p.each(func(q *part) {
		if q.fresh {
			levels[q.level] = append(levels[q.level], q)
		}
	})
	return slices.Concat(levels[:]...)
}

// Gone is the numbers of the standing tree's blocks that the grown one does not keep.
func (g *Grow) Gone() ([]uint32, api.Errno) {
	if g == nil {
		return nil, api.ErrArg
	}
	top, err := g.look()
	if err != api.OK {
		return nil, err
	}
	var gone []uint32
	if err := g.eachGone(top, func(at uint32) { gone = append(gone, at) }); err != api.OK {
		return nil, err
	}
	slices.Sort(gone)
	// A block that stands in several positions is one.
	return slices.Compact(gone), api.OK
}

// eachGone does something with the number of each block of the standing tree that goes, from a position on.
func (g *Grow) eachGone(p *part, do func(uint32)) api.Errno {
	if p.kept() {
		return api.OK
	}
	if len(p.kids) == 0 {
		// A leaf, or what was taken away as a whole, and so not looked at.
		return tree.Each(g.cache, api.Tree{Height: p.level, Root: p.old}, func(q api.Pos) bool {
			do(q.Ref.At)
			return true
		})
	}
	if !node.None(p.old) {
		do(p.old.At)
	}
	for _, kid := range p.kids {
		if err := g.eachGone(kid, do); err != api.OK {
			return err
		}
	}
	return api.OK
}

// Lay lays out what is new.
func (g *Grow) Lay(take func() (uint32, api.Errno)) (api.Tree, []api.Write, api.Errno) {
	if g == nil || take == nil {
		return api.Tree{}, nil, api.ErrArg
	}
	// All is looked at ahead of the first call of take, which might change the grown tree.
	height := g.height
	top, err := g.look()
	if err != api.OK {
		return api.Tree{}, nil, err
	}
	var writes []api.Write
	for _, p := range top.news() {
		at, err := numberFrom(take)
		if err != api.OK {
			return api.Tree{}, nil, err
		}
		b := p.block()
		p.ref = node.Of(g.cache.Log(), at, b)
		writes = append(writes, api.Write{At: at, Data: b})
	}
	return api.Tree{Height: height, Root: top.under(height).ref}, writes, api.OK
}

// numberFrom is the number of a block that is taken.
func numberFrom(take func() (uint32, api.Errno)) (uint32, api.Errno) {
	at, err := take()
	if err == api.OK && at == 0 {
		// Block 0 is never used: no reference may say it.
		return 0, api.ErrArg
	}
	return at, err
}

// block is what is to be written for a position that is new, when all beneath it has its references.
func (p *part) block() api.Block {
	if p.level == 0 {
		return p.leaf
	}
	n := api.Node{Level: p.level}
	for i, kid := range p.kids {
		n.Kids[i] = kid.ref
	}
	b, _ := node.Block(n)
	return b
}

// under is the first position at a level, from one above it on; where nothing was looked at beneath one, it is that, and none like it.
func (p *part) under(level int) *part {
	for p.level > level && len(p.kids) > 0 {
		p = p.kids[0]
	}
	return p
}

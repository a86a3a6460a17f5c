package grow

import (
	"slices"

	"signet/api"
	"signet/node"
)

// part is a position, as the grown tree has it and as the standing one does.
type part struct {
	level, place int
	old          api.Ref   // the standing tree's reference
	ref          api.Ref   // the grown tree's; of what is new it is known when that is laid out
	there, fresh bool      // whether the grown tree has something here, and whether that is new
	leaf         api.Block // the bytes of a leaf that was set
	kids         []*part   // what hangs beneath, where it had to be looked at
}

// kept tells whether the standing tree's block stands for what the grown tree has here.
func (p *part) kept() bool {
	return p.there && !p.fresh
}

// each does something with all that was looked at, a node behind what hangs beneath it, earlier places first.
func (p *part) each(do func(*part)) {
	for _, kid := range p.kids {
		kid.each(do)
	}
	do(p)
}

// look looks at both trees from the higher one's root on.
func (g *Grow) look() (*part, api.Errno) {
	top := max(g.height, g.standing.Height)
	return g.lookAt(&part{level: top}, g.Touched())
}

// lookAt looks at a position, beneath which these leaves were set.
func (g *Grow) lookAt(p *part, set []int) (*part, api.Errno) {
	// No node of the standing tree refers to its root: it is met here.
	if p.level == g.standing.Height && p.place == 0 {
		p.old = g.standing.Root
	}
	first := p.place * capacity(p.level)
	untouched := len(set) == 0 && !g.above(p)
	switch {
	case untouched && first >= g.end:
		return p, api.OK
	case untouched && first+capacity(p.level) <= g.end:
		// What is all zero is none; so what is not none is there, and need not be read.
		p.there, p.ref = !node.None(p.old), p.old
		return p, api.OK
	case p.level == 0:
		g.lookAtLeaf(p)
		return p, api.OK
	}
	return p, g.lookBeneath(p, set)
}

// above tells whether the standing tree's root hangs beneath a position: what goes must be looked for there.
func (g *Grow) above(p *part) bool {
	return p.level > g.standing.Height && p.place == 0
}

// lookAtLeaf looks at a leaf that was set.
func (g *Grow) lookAtLeaf(p *part) {
	p.leaf = g.set[p.place]
	p.there = p.leaf != api.Block{}
	// The digest stands for the bytes that the standing tree has: they need not be read.
	p.settle(!node.None(p.old) && node.Holds(g.cache.Log(), p.old, p.leaf))
}

// settle tells whether what is there is new, or what the standing tree has.
func (p *part) settle(same bool) {
	p.fresh = p.there && !same
	if p.kept() {
		p.ref = p.old
	}
}

// lookBeneath looks at what hangs beneath a node, and then at the node.
func (g *Grow) lookBeneath(p *part, set []int) api.Errno {
	n, err := g.oldNode(p)
	if err != api.OK {
		return err
	}
	same := !node.None(p.old)
	for i, r := range n.Kids {
		kid := &part{level: p.level - 1, place: p.place*api.Fan + i, old: r}
		behind, _ := slices.BinarySearch(set, (kid.place+1)*capacity(kid.level))
		if _, err := g.lookAt(kid, set[:behind]); err != api.OK {
			return err
		}
		set = set[behind:]
		p.kids = append(p.kids, kid)
		p.there = p.there || kid.there
		same = same && !kid.fresh && kid.there == !node.None(r)
	}
	// Above its root the grown tree has none, whatever hangs beneath.
	p.there = p.there && p.level <= g.height
	p.settle(same)
	return api.OK
}

// oldNode is the standing tree's node; one of four nones, where it has none.
func (g *Grow) oldNode(p *part) (api.Node, api.Errno) {
	if node.None(p.old) {
		return api.Node{}, api.OK
	}
	b, err := g.cache.Get(p.old)
	if err != api.OK {
		return api.Node{}, err
	}
	n, err := node.Read(b)
	if err != api.OK || n.Level != p.level {
		return api.Node{}, api.ErrNode
	}
	return n, api.OK
}

package tree

import (
	"signet/api"
	"signet/cache"
	"signet/node"
)

// root is a tree's first position.
func root(t api.Tree) api.Pos {
	return api.Pos{Level: t.Height, Ref: t.Root}
}

// beneath is the position that hangs in a place of another one, which has that node.
func beneath(p api.Pos, n api.Node, place int) api.Pos {
	return api.Pos{Level: p.Level - 1, Place: p.Place*api.Fan + place, Ref: n.Kids[place]}
}

// readNode is the block and the node of a position above the leaves, whose reference is not none.
func readNode(c *cache.Cache, p api.Pos) (api.Block, api.Node, api.Errno) {
	b, err := c.Get(p.Ref)
	if err != api.OK {
		return api.Block{}, api.Node{}, err
	}
	n, err := node.Read(b)
	// A node of another level would make a tree of another height of what hangs here.
	if err != api.OK || n.Level != p.Level {
		return api.Block{}, api.Node{}, api.ErrNode
	}
	return b, n, api.OK
}

// follow goes a way from the root on, and tells the reference that it leads to. Each node's block on it is met.
func follow(c *cache.Cache, t api.Tree, way []int, meet func(api.Block)) (api.Ref, api.Errno) {
	p := root(t)
	for _, place := range way {
		if node.None(p.Ref) {
			return api.Ref{}, api.OK
		}
		b, n, err := readNode(c, p)
		if err != api.OK {
			return api.Ref{}, err
		}
		meet(b)
		p = beneath(p, n, place)
	}
	return p.Ref, api.OK
}

// Ref is the reference at a position.
func Ref(c *cache.Cache, t api.Tree, level, place int) (api.Ref, api.Errno) {
	way, err := wayTo(t, level, place)
	if err != api.OK {
		return api.Ref{}, err
	}
	return follow(c, t, way, func(api.Block) {})
}

// Leaf is a leaf.
func Leaf(c *cache.Cache, t api.Tree, place int) (api.Block, api.Errno) {
	r, err := Ref(c, t, 0, place)
	if err != api.OK {
		return api.Block{}, err
	}
	return c.Get(r)
}

// Blocks is the blocks on the way to a leaf.
func Blocks(c *cache.Cache, t api.Tree, place int) ([]api.Block, api.Errno) {
	way, err := wayTo(t, 0, place)
	if err != api.OK {
		return nil, err
	}
	var met []api.Block
	r, err := follow(c, t, way, func(b api.Block) { met = append(met, b) })
	if err != api.OK {
		return nil, err
	}
	if node.None(r) {
		return met, api.OK
	}
	leaf, err := c.Get(r)
	if err != api.OK {
		return nil, err
	}
	return append(met, leaf), api.OK
}

// Range is some leaves.
func Range(c *cache.Cache, t api.Tree, from, n int) ([]api.Block, api.Errno) {
	if !right(t) {
		return nil, api.ErrArg
	}
	many, _ := Capacity(t.Height)
	// The sum from+n could pass the greatest int; this difference can't.
	if from < 0 || n < 0 || from > many-n {
		return nil, api.ErrPlace
	}
	leaves := make([]api.Block, n)
	err := walk(c, root(t), func(p api.Pos) (bool, api.Errno) {
		asked := covers(p, from, n)
		if !asked || p.Level > 0 {
			return asked, api.OK
		}
		leaf, err := c.Get(p.Ref)
		leaves[p.Place-from] = leaf
		return false, err
	})
	if err != api.OK {
		return nil, err
	}
	return leaves, api.OK
}

// covers tells whether one of n leaves hangs beneath a position.
func covers(p api.Pos, from, n int) bool {
	first, behind := firstLeaf(p.Level, p.Place), firstLeaf(p.Level, p.Place+1)
	return max(first, from) < min(behind, from+n)
}

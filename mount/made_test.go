package mount_test

import (
	"slices"
	"testing"

	"signet/api"
	"signet/bits"
	"signet/node"
	"signet/super"
)

// made is a system whose blocks are laid one by one, so that each of them may be another one than it must be.
type made struct {
	root   api.Super
	leaves []api.Block // of the map
	at     uint32      // where the root block lies
	lift   func(level int, n *api.Node)
	seal   func(b *api.Block) // what is done to the root block
}

// right is the parts of a system of so many blocks that is right: the table's leaf in block 1, then the map, then the root block.
func right(t *testing.T, blocks int) *made {
	t.Helper()
	used := mapBlocks(blocks) + 2
	m := &made{at: uint32(used), lift: func(int, *api.Node) {}, seal: func(*api.Block) {}}
	leaf := api.Block{0: 2, 2: 1, 16: 1}
	height, _ := super.MapHeight(blocks)
	m.root = api.Super{Blocks: blocks, Counter: 1, Table: api.Tree{Root: node.Of(nil, 1, leaf)}, Inodes: 1, Map: api.Tree{Height: height}, Used: used}
	var places []int
	for at := range used {
		places = append(places, at+1)
	}
	m.leaves = mapOf(t, blocks, places...)
	return m
}

// mapBlocks is how many blocks a map has, counted node by node.
func mapBlocks(blocks int) int {
	leaves := (blocks + 1023) / 1024
	switch {
	case leaves == 1:
		return 1
	case leaves <= 4:
		return leaves + 1
	}
	return leaves + 3
}

// mapOf is the leaves of a map with ones at these places.
func mapOf(t *testing.T, blocks int, places ...int) []api.Block {
	t.Helper()
	m, err := bits.Of(blocks, places...)
	if err != api.OK {
		t.Fatal(err)
	}
	return m.Leaves()
}

// flip turns the bit of a block in the map.
func (m *made) flip(at int) {
	m.leaves[at/1024][128+at%1024/8] ^= 1 << (at % 8)
}

// lay lays the parts on a new disk of so many blocks, and the register names them.
func (m *made) lay(t *testing.T, blocks int) rig {
	t.Helper()
	g := empty(t, blocks)
	g.put(1, api.Block{0: 2, 2: 1, 16: 1})
	next := uint32(1)
	put := func(b api.Block) api.Ref {
		next++
		return g.put(next, b)
	}
	var level []api.Ref
	for _, b := range m.leaves {
		level = append(level, put(b))
	}
	for height := 1; len(level) > 1; height++ {
		var above []api.Ref
		for four := range slices.Chunk(level, 4) {
			n := api.Node{Level: height}
			copy(n.Kids[:], four)
			m.lift(height, &n)
			b, err := node.Block(n)
			g.ok(err)
			above = append(above, put(b))
		}
		level = above
	}
	if m.root.Map.Root == (api.Ref{}) {
		m.root.Map.Root = level[0]
	}
	b, err := super.Encode(m.root)
	g.ok(err)
	m.seal(&b)
	g.swing(g.put(m.at, b))
	return g
}

package super

import (
	"signet/api"
	"signet/block"
	"signet/node"
)

// mark is what each root block begins with.
const mark = "signet01"

// Where the parts of a root stand behind the mark. Zeros stand ahead of the counter, and behind the last part.
const (
	blocksAt      = len(mark)
	counterAt     = 16
	tableHeightAt = 24
	inodesAt      = 28
	tableAt       = 32
	mapHeightAt   = 68
	mapAt         = 72
	usedAt        = 108
)

// Encode is a root's block.
func Encode(x api.Super) (api.Block, api.Errno) {
	if err := Check(x); err != api.OK {
		return api.Block{}, err
	}
	b, _ := block.Of(mark)
	b, _ = block.Lay32(b, blocksAt, uint32(x.Blocks))
	b, _ = block.Lay64(b, counterAt, x.Counter)
	b, _ = block.Lay32(b, tableHeightAt, uint32(x.Table.Height))
	b, _ = block.Lay32(b, inodesAt, uint32(x.Inodes))
	b, _ = block.Lay(b, tableAt, node.Encode(x.Table.Root))
	b, _ = block.Lay32(b, mapHeightAt, uint32(x.Map.Height))
	b, _ = block.Lay(b, mapAt, node.Encode(x.Map.Root))
	b, _ = block.Lay32(b, usedAt, uint32(x.Used))
	return b, api.OK
}

// Decode is the root that a block is.
func Decode(b api.Block) (api.Super, api.Errno) {
	x := parts(b)
	// Each root has one block, so a block that Encode does not make of these parts is none.
	if back, err := Encode(x); err != api.OK || back != b {
		return api.Super{}, api.ErrSuper
	}
	return x, api.OK
}

// parts is what a block says where a root's parts stand, whether it may be or not. A reference that is not right is none here, which no root has.
func parts(b api.Block) api.Super {
	counter, _ := block.Take64(b, counterAt)
	return api.Super{
		Blocks:  number(b, blocksAt),
		Counter: counter,
		Table:   laidTree(b, tableHeightAt, tableAt),
		Inodes:  number(b, inodesAt),
		Map:     laidTree(b, mapHeightAt, mapAt),
		Used:    number(b, usedAt),
	}
}

// laidTree is the tree whose height and reference stand at two places of a block.
func laidTree(b api.Block, heightAt, rootAt int) api.Tree {
	root, _ := node.Decode(block.Text(b), rootAt)
	return api.Tree{Height: number(b, heightAt), Root: root}
}

// number is the number of four bytes of a block from a place on.
func number(b api.Block, at int) int {
	n, _ := block.Take32(b, at)
	return int(n)
}

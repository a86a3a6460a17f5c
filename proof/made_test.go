package proof_test

import (
	"testing"

	"signet/api"
	"signet/inode"
	"signet/name"
	"signet/node"
	"signet/super"
)

// made is a disk whose blocks are laid one by one, each with its right digest, so that each of them may be another one than it must be.
type made struct {
	rig
	next uint32
}

// making is a made disk with nothing on it.
func making(t *testing.T) *made {
	t.Helper()
	return &made{empty(t, 256), 0}
}

// lay lays a block into the next place.
func (m *made) lay(b api.Block) api.Ref {
	m.t.Helper()
	m.next++
	return m.put(m.next, b)
}

// knot lays the node of some references.
func (m *made) knot(level int, kids ...api.Ref) api.Ref {
	m.t.Helper()
	n := api.Node{Level: level}
	copy(n.Kids[:], kids)
	b, err := node.Block(n)
	m.ok(err)
	return m.lay(b)
}

// entries is the leaf of these.
func (m *made) entries(l ...api.Link) api.Block {
	m.t.Helper()
	b, err := name.Leaf(l...)
	m.ok(err)
	return b
}

// four is the table's leaf of these.
func (m *made) four(l ...api.Inode) api.Block {
	m.t.Helper()
	var four [4]api.Inode
	copy(four[:], l)
	b, _, err := inode.Leaf(four)
	m.ok(err)
	return b
}

// dirOf is a directory of so many entries, with a tree.
func dirOf(count, height int, x api.Ref) api.Inode {
	return api.Inode{Kind: api.KindDir, Links: 1, Size: 64 * count, Tree: api.Tree{Height: height, Root: x}}
}

// fileOf is a file of so many bytes, with a tree.
func fileOf(size, height int, x api.Ref) api.Inode {
	return api.Inode{Kind: api.KindFile, Links: 1, Size: size, Tree: api.Tree{Height: height, Root: x}}
}

// under is the slot of a root with a table.
func (m *made) under(inodes, height int, x api.Ref) api.Slot {
	m.t.Helper()
	root := api.Super{Blocks: 256, Counter: 7, Table: api.Tree{Height: height, Root: x}, Inodes: inodes, Map: api.Tree{Root: api.Ref{At: 255}}, Used: 20}
	b, err := super.Encode(root)
	m.ok(err)
	return api.Slot{Counter: 7, Root: m.lay(b)}
}

// tells asks what all calls tell of paths: the first error that is met, and OK of Inode where there is none.
func (m *made) tells(what string, s api.Slot, paths map[string]api.Errno) {
	m.t.Helper()
	for p, want := range paths {
		if a := m.follows(s, p, 0, 0); a.inodeErr != want {
			m.t.Errorf("%s: Inode of %s = %d; want %d", what, p, a.inodeErr, want)
		}
	}
}

// repeated is the tree, of a height, all of whose leaves are one, but for the last one.
func (m *made) repeated(height int, leaf, last api.Ref) api.Ref {
	m.t.Helper()
	for level := range height {
		next := m.knot(level+1, leaf, leaf, leaf, leaf)
		last = m.knot(level+1, leaf, leaf, leaf, last)
		leaf = next
	}
	return last
}

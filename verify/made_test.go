package verify_test

import (
	"encoding/binary"
	"strings"
	"testing"

	"signet/api"
	"signet/inode"
	"signet/name"
	"signet/node"
	"signet/path"
	"signet/super"
)

// made is blocks that are laid one by one, each with its right digest, so that each of them may be another one than it must be. They lie on no disk.
type made struct {
	t      *testing.T
	blocks map[api.Sum]api.Block
	next   uint32
}

// making is a made with no blocks.
func making(t *testing.T) *made {
	return &made{t, map[api.Sum]api.Block{}, 0}
}

// ok asks that a call was OK.
func (m *made) ok(err api.Errno) {
	m.t.Helper()
	if err != api.OK {
		m.t.Fatalf("error %d", err)
	}
}

// lay lays a block into the next place.
func (m *made) lay(b api.Block) api.Ref {
	m.next++
	r := node.Of(nil, m.next, b)
	m.blocks[r.Sum] = b
	return r
}

// knot lays the node of some references.
func (m *made) knot(level int, kids ...api.Ref) api.Ref {
	m.t.Helper()
	n := api.Node{Level: level}
	copy(n.Kids[:], kids)
	b, err := node.Block(n)
	m.ok(err)
	return m.lay(b)
}

// entries is the leaf of these.
func (m *made) entries(l ...api.Link) api.Block {
	m.t.Helper()
	b, err := name.Leaf(l...)
	m.ok(err)
	return b
}

// four is the table's leaf of these.
func (m *made) four(l ...api.Inode) api.Block {
	m.t.Helper()
	var four [4]api.Inode
	copy(four[:], l)
	b, _, err := inode.Leaf(four)
	m.ok(err)
	return b
}

// dirOf is a directory of so many entries, with a tree.
func dirOf(count, height int, x api.Ref) api.Inode {
	return api.Inode{Kind: api.KindDir, Links: 1, Size: 64 * count, Tree: api.Tree{Height: height, Root: x}}
}

// fileOf is a file of so many bytes, with a tree.
func fileOf(size, height int, x api.Ref) api.Inode {
	return api.Inode{Kind: api.KindFile, Links: 1, Size: size, Tree: api.Tree{Height: height, Root: x}}
}

// under is the slot of a root with a table.
func (m *made) under(inodes, height int, x api.Ref) api.Slot {
	m.t.Helper()
	root := api.Super{Blocks: 8192, Counter: 7, Table: api.Tree{Height: height, Root: x}, Inodes: inodes, Map: api.Tree{Height: 2, Root: api.Ref{At: 8191}}, Used: 20}
	b, err := super.Encode(root)
	m.ok(err)
	return api.Slot{Counter: 7, Root: m.lay(b)}
}

// prover makes texts of made blocks. It asks for nothing: it goes on with what stands where something must stand, and ends where there is nothing.
type prover struct {
	*made
	root  api.Super
	inode api.Inode
	text  strings.Builder
}

// leaf puts the way to a leaf into the text.
func (v *prover) leaf(t api.Tree, place int) (b api.Block) {
	r := t.Root
	for level := t.Height; level >= 0; level-- {
		var there bool
		if b, there = v.blocks[r.Sum]; !there || node.None(r) {
			return api.Block{}
		}
		v.text.Write(b[:])
		if level > 0 {
			r, _ = node.Decode(string(b[:]), 8+36*(place>>(2*level-2)%4))
		}
	}
	return b
}

// enter puts an inode's leaf into it.
func (v *prover) enter(number int) {
	number = max(1, number)
	b := v.leaf(v.root.Table, (number-1)/4)
	v.inode, _ = inode.Decode(b[(number-1)%4*64:][:64])
}

// peek is a leaf without its way in the text.
func (v *prover) peek(place int) api.Block {
	return (&prover{made: v.made}).leaf(v.inode.Tree, place)
}

// find is the place of an entry with a name, or 0, and its inode's number.
func (v *prover) find(s string) (int, int) {
	for place := range v.inode.Size / 64 {
		b := v.peek(place / 4)
		e := b[place%4*64:][:64]
		if many := int(e[4]); many == len(s) && string(e[8:8+many]) == s {
			return place, int(binary.LittleEndian.Uint32(e))
		}
	}
	return 0, 0
}

// reach puts all as far as an inode into the text.
func (m *made) reach(s api.Slot, p string) *prover {
	m.t.Helper()
	v := &prover{made: m}
	x, _, err := path.Parse(p)
	m.ok(err)
	b := m.blocks[s.Root.Sum]
	v.text.Write(b[:])
	v.root, _ = super.Decode(b)
	v.enter(1)
	for _, s := range x.Names {
		place, number := v.find(s)
		v.text.Write(binary.LittleEndian.AppendUint32(nil, uint32(place)))
		v.leaf(v.inode.Tree, place/4)
		v.enter(number)
	}
	return v
}

// proof is the text of a range of a file, as far as there is one.
func (m *made) proof(s api.Slot, p string, off, n int) string {
	m.t.Helper()
	v := m.reach(s, p)
	for leaf := off / 256; n > 0 && leaf <= (off+n-1)/256; leaf++ {
		v.leaf(v.inode.Tree, leaf)
	}
	return v.text.String()
}

// list is the text of a directory's entries, as far as there is one.
func (m *made) list(s api.Slot, p string) string {
	m.t.Helper()
	v := m.reach(s, p)
	for leaf := range (v.inode.Size/64 + 3) / 4 {
		v.leaf(v.inode.Tree, leaf)
	}
	return v.text.String()
}

// tells asks what is told of paths by the texts of no bytes.
func (m *made) tells(what string, s api.Slot, paths map[string]api.Errno) {
	m.t.Helper()
	for p, want := range paths {
		question{s, p, 0, "", m.proof(s, p, 0, 0)}.is(m.t, what, want)
		question{s, p, 0, "", m.list(s, p)}.asked(m.t)
	}
}

// repeated is the tree, of a height, all of whose leaves are one, but for the last one.
func (m *made) repeated(height int, leaf, last api.Ref) api.Ref {
	m.t.Helper()
	for level := range height {
		next := m.knot(level+1, leaf, leaf, leaf, leaf)
		last = m.knot(level+1, leaf, leaf, leaf, last)
		leaf = next
	}
	return last
}

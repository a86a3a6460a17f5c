package proof_test

import (
	"encoding/binary"
	"slices"
	"strings"

	"signet/api"
	"signet/inode"
	"signet/name"
	"signet/node"
	"signet/path"
	"signet/super"
)

// sight is a text that is gone through from the front by somebody who knows a slot alone. What is wrong panics with a text, which takes catches.
type sight struct {
	text string
	root api.Super
}

// unless panics, unless something is right.
func unless(right bool, what string) {
	if !right {
		panic(what)
	}
}

// next is the next bytes of the text.
func (v *sight) next(many int) string {
	unless(len(v.text) >= many, "the text is too short")
	s := v.text[:many]
	v.text = v.text[many:]
	return s
}

// take takes the block of a reference.
func (v *sight) take(x api.Ref) api.Block {
	b := api.Block([]byte(v.next(256)))
	unless(sumOf(b) == x.Sum, "a block has another digest")
	return b
}

// leaf goes to a leaf of a tree.
func (v *sight) leaf(t api.Tree, place int) api.Block {
	x := t.Root
	for level := t.Height; level > 0 && x != (api.Ref{}); level-- {
		n, err := node.Read(v.take(x))
		unless(err == api.OK && n.Level == level, "a block is no node")
		x = n.Kids[place>>(2*(level-1))&3]
	}
	if x == (api.Ref{}) {
		return api.Block{}
	}
	return v.take(x)
}

// inode goes to an inode.
func (v *sight) inode(number int) api.Inode {
	unless(number <= v.root.Inodes, "a number is too great")
	four, _, err := inode.FromLeaf(v.leaf(v.root.Table, (number-1)/4))
	unless(err == api.OK && four[(number-1)%4].Kind != api.KindNone, "an inode is not in use")
	return four[(number-1)%4]
}

// entries goes to the entries of a directory's leaf.
func (v *sight) entries(dir api.Inode, leaf int) []api.Link {
	l, err := name.FromLeaf(v.leaf(dir.Tree, leaf), min(4, dir.Size/64-4*leaf))
	unless(err == api.OK, "a leaf has no entries")
	return l
}

// reach goes to the inode of a path.
func (v *sight) reach(s api.Slot, p string) api.Inode {
	x, _, err := path.Parse(p)
	unless(err == api.OK && s.Root != (api.Ref{}), "no path, or no root")
	v.root, err = super.Decode(v.take(s.Root))
	unless(err == api.OK && v.root.Counter == s.Counter, "no root")
	i := v.inode(1)
	for _, s := range x.Names {
		unless(i.Kind == api.KindDir, "no directory on the way")
		place := int(binary.LittleEndian.Uint32([]byte(v.next(4))))
		unless(place < i.Size/64, "no entry has that place")
		e := v.entries(i, place/4)[place%4]
		unless(e.Name == s, "the entry has another name")
		i = v.inode(e.Inode)
	}
	unless(!x.Dir || i.Kind == api.KindDir, "no directory")
	return i
}

// takes tells whether a text is a proof of some bytes of a file.
func takes(s api.Slot, p string, off int, bytes, text string) (is bool) {
	defer func() { is = recover() == nil }()
	v := &sight{text: text}
	f := v.reach(s, p)
	unless(f.Kind == api.KindFile && off+len(bytes) <= f.Size, "no such bytes")
	var all strings.Builder
	if len(bytes) > 0 {
		for leaf := off / 256; leaf <= (off+len(bytes)-1)/256; leaf++ {
			b := v.leaf(f.Tree, leaf)
			all.Write(b[:])
		}
		unless(all.String()[off%256:][:len(bytes)] == bytes, "other bytes")
	}
	unless(v.text == "", "something is left")
	return true
}

// takesList tells whether a text is a proof of a directory's entries.
func takesList(s api.Slot, p string, links []api.Link, text string) (is bool) {
	defer func() { is = recover() == nil }()
	v := &sight{text: text}
	dir := v.reach(s, p)
	unless(dir.Kind == api.KindDir, "no directory")
	var all []api.Link
	for leaf := 0; 4*leaf < dir.Size/64; leaf++ {
		all = append(all, v.entries(dir, leaf)...)
	}
	unless(v.text == "" && slices.Equal(name.Sorted(all), links), "other entries")
	return true
}

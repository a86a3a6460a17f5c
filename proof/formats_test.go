package proof_test

import (
	"encoding/binary"
	"slices"
	"strings"
	"testing"

	"signet/api"
	"signet/digest"
	"signet/inode"
	"signet/name"
	"signet/node"
	"signet/path"
	"signet/super"
)

// What is committed on a disk, read from its image, without a cache and without package tree.

// sumOf is a block's digest.
func sumOf(b api.Block) api.Sum {
	return digest.Of(api.TagBlock, string(b[:]))
}

// namesOf is the names of a path.
func namesOf(t *testing.T, p string) []string {
	t.Helper()
	x, _, err := path.Parse(p)
	if err != api.OK {
		t.Fatalf("the path %q: error %d", p, err)
	}
	return x.Names
}

// reader reads blocks of an image by their references.
type reader struct {
	image []api.Block
	read  []uint32 // the numbers of the blocks that were read, in their order
}

// block is the block of a reference.
func (r *reader) block(x api.Ref) (api.Block, api.Errno) {
	if x.At == 0 || int(x.At) >= len(r.image) {
		return api.Block{}, api.ErrTampered
	}
	b := r.image[x.At]
	r.read = append(r.read, x.At)
	if sumOf(b) != x.Sum {
		return api.Block{}, api.ErrTampered
	}
	return b, api.OK
}

// way is a leaf, and all blocks on the way to it.
func (r *reader) way(t api.Tree, place int) (api.Block, string, api.Errno) {
	var text strings.Builder
	x := t.Root
	for level := t.Height; x != (api.Ref{}); level-- {
		b, err := r.block(x)
		if err != api.OK {
			return api.Block{}, "", err
		}
		text.Write(b[:])
		if level == 0 {
			return b, text.String(), api.OK
		}
		n, err := node.Read(b)
		if err != api.OK || n.Level != level {
			return api.Block{}, "", api.ErrNode
		}
		x = n.Kids[place>>(2*level-2)%4]
	}
	return api.Block{}, text.String(), api.OK
}

// inode is an inode of a root's table, and the way to it.
func (r *reader) inode(root api.Super, number int) (api.Inode, string, api.Errno) {
	if number > root.Inodes {
		return api.Inode{}, "", api.ErrNone
	}
	b, text, err := r.way(root.Table, (number-1)/4)
	if err != api.OK {
		return api.Inode{}, "", err
	}
	four, _, err := inode.FromLeaf(b)
	if err != api.OK {
		return api.Inode{}, "", err
	}
	if four[(number-1)%4].Kind == api.KindNone {
		return api.Inode{}, "", api.ErrNone
	}
	return four[(number-1)%4], text, api.OK
}

// entries is those of one leaf of a directory, and the way to them.
func (r *reader) entries(dir api.Inode, leaf int) ([]api.Link, string, api.Errno) {
	b, text, err := r.way(dir.Tree, leaf)
	if err != api.OK {
		return nil, "", err
	}
	l, err := name.FromLeaf(b, min(4, dir.Size/64-4*leaf))
	return l, text, err
}

// entry is a name's inode in a directory, and what a proof has for it.
func (r *reader) entry(dir api.Inode, s string) (int, string, api.Errno) {
	if dir.Kind != api.KindDir {
		return 0, "", api.ErrDir
	}
	for leaf := 0; leaf < (dir.Size/64+3)/4; leaf++ {
		l, text, err := r.entries(dir, leaf)
		if err != api.OK {
			return 0, "", err
		}
		for i, e := range l {
			if e.Name == s {
				return e.Inode, string(binary.LittleEndian.AppendUint32(nil, uint32(4*leaf+i))) + text, api.OK
			}
		}
	}
	return 0, "", api.ErrMissing
}

// reach is what a path names beneath a slot, and the proof as far as that.
func (r *reader) reach(s api.Slot, p string) (int, api.Inode, string, api.Errno) {
	none := func(err api.Errno) (int, api.Inode, string, api.Errno) { return 0, api.Inode{}, "", err }
	x, _, err := path.Parse(p)
	if err != api.OK {
		return none(err)
	}
	if s.Root == (api.Ref{}) {
		return none(api.ErrSuper)
	}
	b, err := r.block(s.Root)
	if err != api.OK {
		return none(err)
	}
	root, err := super.Decode(b)
	if err != api.OK {
		return none(err)
	}
	if !super.Fits(root, s, len(r.image)) {
		return none(api.ErrArg)
	}
	number, text := 1, string(b[:])
	i, more, err := r.inode(root, number)
	for _, s := range x.Names {
		if err != api.OK {
			return none(err)
		}
		text += more
		if number, more, err = r.entry(i, s); err != api.OK {
			return none(err)
		}
		text += more
		i, more, err = r.inode(root, number)
	}
	if err == api.OK && x.Dir && i.Kind != api.KindDir {
		err = api.ErrDir
	}
	if err != api.OK {
		return none(err)
	}
	return number, i, text + more, api.OK
}

// make is bytes of a file that was reached, and the rest of their proof.
func (r *reader) make(f api.Inode, off, n int) (string, string, api.Errno) {
	if f.Kind == api.KindDir {
		return "", "", api.ErrArg
	}
	if off < 0 || n < 0 || off > f.Size || n > f.Size-off {
		return "", "", api.ErrRange
	}
	var all, text strings.Builder
	if n > 0 {
		for leaf := off >> 8; leaf <= (off+n-1)>>8; leaf++ {
			b, way, err := r.way(f.Tree, leaf)
			if err != api.OK {
				return "", "", err
			}
			all.Write(b[max(0, off-256*leaf):min(256, off+n-256*leaf)])
			text.WriteString(way)
		}
	}
	return all.String(), text.String(), api.OK
}

// list is the entries of a directory that was reached, and the rest of their proof.
func (r *reader) list(dir api.Inode) ([]api.Link, string, api.Errno) {
	if dir.Kind != api.KindDir {
		return nil, "", api.ErrDir
	}
	var all []api.Link
	var text strings.Builder
	for leaf := 0; leaf < (dir.Size/64+3)/4; leaf++ {
		l, way, err := r.entries(dir, leaf)
		if err != api.OK {
			return nil, "", err
		}
		all = append(all, l...)
		text.WriteString(way)
	}
	slices.SortFunc(all, func(a, b api.Link) int { return strings.Compare(a.Name, b.Name) })
	return all, text.String(), api.OK
}

// formats is what all calls must tell of a path and a range on the image that the disk has, and the blocks that are read for a Make.
func (g rig) formats(s api.Slot, p string, off, n int) (answers, []uint32) {
	g.t.Helper()
	r := &reader{image: g.d.Image()}
	number, i, text, err := r.reach(s, p)
	if err != api.OK {
		return fails(err), r.read
	}
	a := answers{number: number, inode: i, size: i.Size}
	lister := &reader{image: r.image}
	if a.links, a.list, a.listErr = lister.list(i); a.listErr == api.OK {
		a.list = text + a.list
	}
	if a.bytes, a.text, a.makeErr = r.make(i, off, n); a.makeErr == api.OK {
		a.text = text + a.text
	}
	return a, r.read
}

// told is that, without the blocks.
func (g rig) told(s api.Slot, x asked) answers {
	g.t.Helper()
	a, _ := g.formats(s, x.p, x.off, x.n)
	return a
}

package inode

import (
	"signet/api"
	"signet/block"
	"signet/node"
	"signet/word"
)

// Where the parts of an inode stand in its bytes. Zeros stand ahead of the size, and behind the reference.
const (
	kindAt   = 0
	linksAt  = 2
	heightAt = 4
	sizeAt   = 8
	stampAt  = 16
	rootAt   = 24
)

// Encode is an inode in bytes.
func Encode(x api.Inode) ([]byte, api.Errno) {
	if err := Check(x); err != api.OK {
		return nil, err
	}
	kind, links := word.Bytes16(uint16(x.Kind)), word.Bytes16(uint16(x.Links))
	height := word.Bytes16(uint16(x.Tree.Height))
	size, stamp := word.Bytes64(uint64(x.Size)), word.Bytes64(x.Stamp)
	b := make([]byte, api.InodeBytes)
	copy(b[kindAt:], kind[:])
	copy(b[linksAt:], links[:])
	copy(b[heightAt:], height[:])
	copy(b[sizeAt:], size[:])
	copy(b[stampAt:], stamp[:])
	copy(b[rootAt:], node.Encode(x.Tree.Root))
	return b, api.OK
}

// Decode is the inode that bytes are.
func Decode(b []byte) (api.Inode, api.Errno) {
	s := string(b)
	x := parts(s)
	// Each inode has one form in bytes, so what Encode does not make of these parts is none.
	if back, err := Encode(x); err != api.OK || string(back) != s {
		return api.Inode{}, api.ErrInode
	}
	return x, api.OK
}

// parts is what the bytes of an inode say, whether it may be or not. A part that is missing, or that no inode could have, is zero, and so tells itself when they are laid out again.
func parts(s string) api.Inode {
	kind, _ := word.Take16(s, kindAt)
	links, _ := word.Take16(s, linksAt)
	height, _ := word.Take16(s, heightAt)
	bytes, _ := word.Take64(s, sizeAt)
	size, _ := word.Int(bytes)
	stamp, _ := word.Take64(s, stampAt)
	root, _ := node.Decode(s, rootAt)
	return api.Inode{
		Kind:  int(kind),
		Links: int(links),
		Size:  size,
		Stamp: stamp,
		Tree:  api.Tree{Height: int(height), Root: root},
	}
}

// Leaf is four inodes' leaf.
func Leaf(l [4]api.Inode) (api.Block, int, api.Errno) {
	var b api.Block
	for place, x := range l {
		s, err := Encode(x)
		if err != api.OK {
			return api.Block{}, place, err
		}
		b, _ = block.Lay(b, place*api.InodeBytes, string(s))
	}
	return b, 0, api.OK
}

// FromLeaf is a leaf's four inodes.
func FromLeaf(b api.Block) ([4]api.Inode, int, api.Errno) {
	var l [perLeaf]api.Inode
	for place := range l {
		x, err := Decode(b[place*api.InodeBytes:][:api.InodeBytes])
		if err != api.OK {
			return [perLeaf]api.Inode{}, place, err
		}
		l[place] = x
	}
	return l, 0, api.OK
}

package commit_test

import (
	"bytes"
	"encoding/binary"
	"testing"

	"signet/api"
	"signet/digest"
)

// What stands on a disk, written and read by the formats alone: of the program's own layers only the digest is asked.

var low = binary.LittleEndian

// sumOf is a block's digest.
func sumOf(b api.Block) api.Sum {
	return digest.Of(api.TagBlock, string(b[:]))
}

// layRef lays a reference into a block.
func layRef(b *api.Block, at int, r api.Ref) {
	low.PutUint32(b[at:], r.At)
	copy(b[at+4:], r.Sum[:])
}

// refAt is the reference at a place of a block.
func refAt(b []byte) api.Ref {
	return api.Ref{At: low.Uint32(b), Sum: api.Sum(b[4:36])}
}

// rootBytes is the block of a root.
func rootBytes(x api.Super) api.Block {
	var b api.Block
	copy(b[:], "signet01")
	low.PutUint32(b[8:], uint32(x.Blocks))
	low.PutUint64(b[16:], x.Counter)
	low.PutUint32(b[24:], uint32(x.Table.Height))
	low.PutUint32(b[28:], uint32(x.Inodes))
	layRef(&b, 32, x.Table.Root)
	low.PutUint32(b[68:], uint32(x.Map.Height))
	layRef(&b, 72, x.Map.Root)
	low.PutUint32(b[108:], uint32(x.Used))
	return b
}

// rootOf is the root that a block says.
func rootOf(b api.Block) api.Super {
	number := func(at int) int { return int(low.Uint32(b[at:])) }
	return api.Super{
		Blocks:  number(8),
		Counter: low.Uint64(b[16:]),
		Table:   api.Tree{Height: number(24), Root: refAt(b[32:])},
		Inodes:  number(28),
		Map:     api.Tree{Height: number(68), Root: refAt(b[72:])},
		Used:    number(108),
	}
}

// firstTable is the leaf of a table with the root directory alone.
func firstTable() api.Block {
	return api.Block{0: 2, 2: 1, 16: 1}
}

// leastHeight is the least height of a tree of so many leaves.
func leastHeight(leaves int) int {
	height := 0
	for many := 1; many < leaves; many *= 4 {
		height++
	}
	return height
}

// mapLeaves is how many leaves the map of so many blocks has.
func mapLeaves(blocks int) int {
	return (blocks + 1023) / 1024
}

// mapBlocks is how many blocks the map of so many blocks has, counted level by level.
func mapBlocks(blocks int) int {
	level := mapLeaves(blocks)
	all := level
	for range leastHeight(level) {
		level = (level + 3) / 4
		all += level
	}
	return all
}

// reader reads a committed tree on an image of a disk.
type reader struct {
	t     *testing.T
	image []api.Block
	used  map[uint32]bool // the blocks that were met
	bits  map[uint32]bool // what the map says
}

// whole is the form and the root beneath a slot, all of whose blocks are held against their digests, and the blocks that it uses. The tree must be whole.
func whole(t *testing.T, image []api.Block, s api.Slot) (form, api.Super, map[uint32]bool) {
	t.Helper()
	r := &reader{t, image, map[uint32]bool{}, map[uint32]bool{}}
	b := r.block(s.Root)
	x := rootOf(b)
	if b != rootBytes(x) {
		t.Fatalf("the root block has more than a root: %v", b[:])
	}
	if x.Blocks != len(image) || x.Counter != s.Counter {
		t.Fatalf("the root %+v does not fit the slot %d on %d blocks", x, s.Counter, len(image))
	}
	r.readMap(x)
	f := r.readTable(x)
	for at := range uint32(len(image)) {
		if r.bits[at] != r.used[at] {
			t.Fatalf("the map's bit of the block %d is %v, and it is used: %v", at, r.bits[at], r.used[at])
		}
	}
	if len(r.used) != x.Used {
		t.Fatalf("%d blocks are used; the root says %d", len(r.used), x.Used)
	}
	return f, x, r.used
}

// block is the block that a reference says.
func (r *reader) block(x api.Ref) api.Block {
	r.t.Helper()
	if x.At == 0 || int(x.At) >= len(r.image) {
		r.t.Fatalf("a reference to the block %d of %d", x.At, len(r.image))
	}
	if r.used[x.At] {
		r.t.Fatalf("the block %d stands at two positions", x.At)
	}
	r.used[x.At] = true
	if sumOf(r.image[x.At]) != x.Sum {
		r.t.Fatalf("the block %d has another digest than its reference", x.At)
	}
	return r.image[x.At]
}

// each does something with each leaf that is there beneath a reference.
func (r *reader) each(level, place int, x api.Ref, do func(place int, b api.Block)) {
	r.t.Helper()
	if x == (api.Ref{}) {
		return
	}
	b := r.block(x)
	if b == (api.Block{}) {
		r.t.Fatalf("zeros at level %d, place %d", level, place)
	}
	if level == 0 {
		do(place, b)
		return
	}
	if !bytes.Equal(b[:8], []byte{'n', 'o', 'd', 'e', byte(level), 0, 0, 0}) || !bytes.Equal(b[152:], make([]byte, 104)) {
		r.t.Fatalf("no node of level %d: %v", level, b[:])
	}
	kids := 0
	for i := range 4 {
		kid := refAt(b[8+36*i:])
		if kid != (api.Ref{}) {
			kids++
		}
		r.each(level-1, 4*place+i, kid, do)
	}
	if kids == 0 {
		r.t.Fatalf("a node of four nones at level %d, place %d", level, place)
	}
}

// readMap reads the map.
func (r *reader) readMap(x api.Super) {
	r.t.Helper()
	if x.Map.Height != leastHeight(mapLeaves(x.Blocks)) {
		r.t.Fatalf("a map of height %d for %d blocks", x.Map.Height, x.Blocks)
	}
	next := 0
	r.each(x.Map.Height, 0, x.Map.Root, func(place int, b api.Block) {
		head := make([]byte, 128)
		copy(head, "bits")
		low.PutUint32(head[4:], uint32(place))
		if place != next || !bytes.Equal(b[:128], head) {
			r.t.Fatalf("no leaf %d of a map: %v", next, b[:])
		}
		next++
		for i := range 1024 {
			if b[128+i/8]>>(i%8)&1 == 1 {
				r.bits[uint32(1024*place+i)] = true
			}
		}
	})
	if next != mapLeaves(x.Blocks) {
		r.t.Fatalf("a map of %d leaves for %d blocks", next, x.Blocks)
	}
	for at := range r.bits {
		if int(at) >= x.Blocks {
			r.t.Fatalf("the map has a bit of the block %d", at)
		}
	}
}

// readTable reads the table and all inodes.
func (r *reader) readTable(x api.Super) form {
	r.t.Helper()
	if x.Table.Height != leastHeight((x.Inodes+3)/4) {
		r.t.Fatalf("a table of height %d for %d inodes", x.Table.Height, x.Inodes)
	}
	f, high := form{}, 0
	r.each(x.Table.Height, 0, x.Table.Root, func(place int, b api.Block) {
		for i := range 4 {
			bytes := b[64*i : 64*i+64]
			if [64]byte(bytes) == ([64]byte{}) {
				continue
			}
			high = max(high, 4*place+i+1)
			f[4*place+i+1] = r.readInode(bytes)
		}
	})
	if high != x.Inodes {
		r.t.Fatalf("the highest number is %d; the root says %d", high, x.Inodes)
	}
	return f
}

// readInode reads an inode and its bytes.
func (r *reader) readInode(b []byte) thing {
	r.t.Helper()
	size, height := int(low.Uint64(b[8:])), int(low.Uint16(b[4:]))
	leaves := (size + 255) / 256
	if height != leastHeight(leaves) {
		r.t.Fatalf("an inode of %d bytes with a tree of height %d", size, height)
	}
	all := make([]byte, 256*leaves)
	r.each(height, 0, refAt(b[24:]), func(place int, leaf api.Block) {
		if place >= leaves {
			r.t.Fatalf("a leaf %d of %d", place, leaves)
		}
		copy(all[256*place:], leaf[:])
	})
	if !bytes.Equal(all[size:], make([]byte, len(all)-size)) {
		r.t.Fatal("bytes behind the size")
	}
	return thing{kind: int(low.Uint16(b)), links: int(low.Uint16(b[2:])), stamp: low.Uint64(b[16:]), text: string(all[:size])}
}

package mount_test

import (
	"bytes"
	"encoding/binary"
	"maps"
	"slices"

	"signet/api"
	"signet/digest"
)

// What a fresh tree is, read by the formats alone: of the program's own layers only the digest is asked.

var low = binary.LittleEndian

// disks is numbers of blocks at both edges of each stretch with one number of the map's leaves, and how many blocks the map has.
var disks = []struct{ blocks, mapped int }{
	{16, 1}, {17, 1}, {64, 1}, {1023, 1}, {1024, 1},
	{1025, 3}, {2048, 3}, {2049, 4}, {3072, 4}, {3073, 5}, {4095, 5}, {4096, 5},
	{4097, 8}, {5120, 8}, {5121, 9}, {6145, 10}, {7168, 10}, {7169, 11}, {8191, 11}, {8192, 11},
}

// walk is a walk over the blocks beneath a slot.
type walk struct {
	g     rig
	image []api.Block
	met   map[uint32]bool // the blocks that were met
	bits  map[uint32]bool // what the map says
}

// fresh asks that a fresh tree stands beneath the register's slot, and is the numbers of its blocks, rising.
func (g rig) fresh(blocks, mapped int) []uint32 {
	g.t.Helper()
	s := g.slot()
	if s.Counter != 1 {
		g.t.Fatalf("the register has %v", s)
	}
	w := walk{g, g.d.Image(), map[uint32]bool{}, map[uint32]bool{}}
	b := w.block(s.Root)
	want := api.Block{}
	copy(want[:], "signet01")
	low.PutUint32(want[8:], uint32(blocks))
	want[16], want[28] = 1, 1
	copy(want[32:68], b[32:68])
	copy(want[72:108], b[72:108])
	for most := 1; most < (blocks+1023)/1024; most *= 4 {
		want[68]++
	}
	want[108] = byte(mapped + 2)
	if b != want {
		g.t.Fatalf("the root block is %v; want %v", b, want)
	}
	// The root directory: KindDir, Links 1, and the stamp 1; the other three are none.
	if leaf := w.block(refAt(b[32:])); leaf != (api.Block{0: 2, 2: 1, 16: 1}) {
		g.t.Fatalf("the table's leaf is %v", leaf)
	}
	if leaves := w.mapped(int(b[68]), 0, refAt(b[72:])); leaves != (blocks+1023)/1024 {
		g.t.Fatalf("the map has %d leaves", leaves)
	}
	if !maps.Equal(w.met, w.bits) || len(w.met) != mapped+2 {
		g.t.Fatalf("the map has bits of %v; %v are used, and should be %d", w.bits, w.met, mapped+2)
	}
	return slices.Sorted(maps.Keys(w.met))
}

// refAt is the reference in bytes.
func refAt(b []byte) api.Ref {
	return api.Ref{At: low.Uint32(b), Sum: api.Sum(b[4:36])}
}

// block is the block that a reference says, which is met for the first time.
func (w walk) block(x api.Ref) api.Block {
	w.g.t.Helper()
	if x.At == 0 || int(x.At) >= len(w.image) || w.met[x.At] {
		w.g.t.Fatalf("a reference to the block %d, met already: %v", x.At, w.met[x.At])
	}
	w.met[x.At] = true
	b := w.image[x.At]
	if digest.Of(1, string(b[:])) != x.Sum {
		w.g.t.Fatalf("the block %d has another digest than its reference", x.At)
	}
	return b
}

// mapped goes over the map beneath a reference, whose first leaf has the number first, and is the number behind its last leaf.
func (w walk) mapped(level, first int, x api.Ref) int {
	w.g.t.Helper()
	b := w.block(x)
	head := make([]byte, 128)
	if level > 0 {
		copy(head, []byte{'n', 'o', 'd', 'e', byte(level)})
		if !bytes.Equal(b[:8], head[:8]) || !bytes.Equal(b[152:], make([]byte, 104)) {
			w.g.t.Fatalf("no node of the level %d: %v", level, b)
		}
		for i := range 4 {
			// Nothing stands behind the last leaf, so that a kid that is none is last.
			if kid := refAt(b[8+36*i:]); kid != (api.Ref{}) {
				first = w.mapped(level-1, first, kid)
			}
		}
		return first
	}
	copy(head, "bits")
	low.PutUint32(head[4:], uint32(first))
	if !bytes.Equal(b[:128], head) {
		w.g.t.Fatalf("no leaf %d of a map: %v", first, b)
	}
	for i := range 1024 {
		if b[128+i/8]>>(i%8)&1 == 1 {
			w.bits[uint32(1024*first+i)] = true
		}
	}
	return first + 1
}

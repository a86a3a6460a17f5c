package branch_test

import (
	"strings"
	"testing"

	"signet/api"
	"signet/cache"
	"signet/disk"
	"signet/inode"
	"signet/inodes"
	"signet/tree"
)

// stand is a cache, the disk it stands on, and which block is written next.
type stand struct {
	t    *testing.T
	c    *cache.Cache
	d    *disk.Disk
	next uint32
}

// made is a cache on a disk of zeros.
func made(t *testing.T, blocks, room int) *stand {
	t.Helper()
	d, err := disk.New(blocks)
	if err != api.OK {
		t.Fatal(err)
	}
	c, err := cache.New(d, nil, room)
	if err != api.OK {
		t.Fatal(err)
	}
	return &stand{t, c, d, 1}
}

// open is inodes on a committed table.
func (s *stand) open(table api.Tree, high int) *inodes.Inodes {
	s.t.Helper()
	x, err := inodes.Open(s.c, table, high)
	if x == nil || err != api.OK {
		s.t.Fatalf("Open(%v, %d) = %v, %d", table, high, x, err)
	}
	return x
}

// empty is inodes of which none is in use.
func (s *stand) empty() *inodes.Inodes {
	s.t.Helper()
	return s.open(api.Tree{}, 0)
}

// take tells the numbers of blocks that were not written yet.
func (s *stand) take() (uint32, api.Errno) {
	s.next++
	return s.next - 1, api.OK
}

// commit lays inodes out, writes that, and opens it.
func (s *stand) commit(x *inodes.Inodes) (*inodes.Inodes, api.Out) {
	s.t.Helper()
	out, err := x.Out(s.take)
	if err != api.OK {
		s.t.Fatalf("Out: %d", err)
	}
	for _, w := range out.Writes {
		s.over(w.At, w.Data)
	}
	return s.open(out.Table, out.High), out
}

// over writes a block behind the cache's back.
func (s *stand) over(at uint32, b api.Block) {
	s.t.Helper()
	if err := s.d.Write(int(at), b); err != api.OK {
		s.t.Fatal(err)
	}
}

// dies cuts the power.
func (s *stand) dies() {
	s.d.Cut(api.Cut{Event: s.d.Events()})
	s.d.Event()
}

// owners is the blocks of a committed form, by the numbers of the inodes whose trees they are in; of 0 those of the table.
func (s *stand) owners(table api.Tree) map[int][]uint32 {
	s.t.Helper()
	blocks := map[int][]uint32{}
	for _, p := range s.positions(table) {
		blocks[0] = append(blocks[0], p.Ref.At)
		if p.Level > 0 {
			continue
		}
		b, _ := s.d.Read(int(p.Ref.At))
		four, _, err := inode.FromLeaf(b)
		if err != api.OK {
			s.t.Fatalf("the leaf %d of the table: %d", p.Place, err)
		}
		for i, f := range four {
			for _, q := range s.positions(f.Tree) {
				n := 4*p.Place + i + 1
				blocks[n] = append(blocks[n], q.Ref.At)
			}
		}
	}
	return blocks
}

// positions is all positions of a tree.
func (s *stand) positions(t api.Tree) []api.Pos {
	s.t.Helper()
	l, err := tree.All(s.c, t)
	if err != api.OK {
		s.t.Fatal(err)
	}
	return l
}

// junk is a block that no tree has here.
func junk() api.Block {
	return api.Block{0: 0xee, 100: 0xdd, 255: 0xcc}
}

// rep is a text, several times.
func rep(s string, many int) string {
	return strings.Repeat(s, many)
}

// long is a name of the greatest length, which begins with a text.
func long(s string) string {
	return s + rep("x", 56-len(s))
}

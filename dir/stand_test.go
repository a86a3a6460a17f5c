package dir_test

import (
	"fmt"
	"math"
	"slices"
	"strings"
	"testing"

	"signet/api"
	"signet/block"
	"signet/cache"
	"signet/disk"
	"signet/inode"
	"signet/inodes"
	"signet/tree"
)

// noNumbers is numbers that no inode has.
var noNumbers = []int{-1, 0, api.MaxInodes + 1, math.MinInt, math.MaxInt, -api.MaxInodes, 1 << 32, 1<<32 + 1}

// noNames is texts that are no names.
var noNames = []string{"", ".", "..", "/", "a/b", "/a", "a/", "\x00", "a\x00", "\x00a", strings.Repeat("n", 57), strings.Repeat("n", 5000), strings.Repeat("é", 29)}

// stand is a cache, the disk it stands on, and which block is written next.
type stand struct {
	t    *testing.T
	c    *cache.Cache
	d    *disk.Disk
	next uint32
}

// made is a cache on a disk of zeros.
func made(t *testing.T, blocks, room int) *stand {
	t.Helper()
	d, err := disk.New(blocks)
	if err != api.OK {
		t.Fatal(err)
	}
	c, err := cache.New(d, nil, room)
	if err != api.OK {
		t.Fatal(err)
	}
	return &stand{t, c, d, 1}
}

// open is inodes on a committed table.
func (s *stand) open(table api.Tree, high int) *inodes.Inodes {
	s.t.Helper()
	x, err := inodes.Open(s.c, table, high)
	if x == nil || err != api.OK {
		s.t.Fatalf("Open(%v, %d) = %v, %d", table, high, x, err)
	}
	return x
}

// empty is inodes without any.
func (s *stand) empty() *inodes.Inodes {
	s.t.Helper()
	return s.open(api.Tree{}, 0)
}

// take tells the numbers of blocks that were not written yet.
func (s *stand) take() (uint32, api.Errno) {
	s.next++
	return s.next - 1, api.OK
}

// commit lays inodes out, writes that, and opens it.
func (s *stand) commit(x *inodes.Inodes) (*inodes.Inodes, api.Out) {
	s.t.Helper()
	out, err := x.Out(s.take)
	if err != api.OK {
		s.t.Fatalf("Out: %d", err)
	}
	for _, w := range out.Writes {
		s.over(w.At, w.Data)
	}
	return s.open(out.Table, out.High), out
}

// over writes a block behind the cache's back.
func (s *stand) over(at uint32, b api.Block) {
	s.t.Helper()
	if err := s.d.Write(int(at), b); err != api.OK {
		s.t.Fatal(err)
	}
}

// lay writes a block where none was written yet.
func (s *stand) lay(b api.Block) api.Ref {
	s.t.Helper()
	at, _ := s.take()
	s.over(at, b)
	return api.Ref{At: at, Sum: block.Sum(b)}
}

// tableOf is a table with one inode.
func (s *stand) tableOf(one api.Inode) api.Tree {
	s.t.Helper()
	b, _, err := inode.Leaf([4]api.Inode{one})
	if err != api.OK {
		s.t.Fatal(err)
	}
	return api.Tree{Root: s.lay(b)}
}

// dies cuts the power.
func (s *stand) dies() {
	s.d.Cut(api.Cut{Event: s.d.Events()})
	s.d.Event()
}

// reads is the blocks that something reads raw, each once, rising. Nothing may be written.
func (s *stand) reads(do func()) []uint32 {
	s.t.Helper()
	from, events := len(s.d.Log()), s.d.Events()
	do()
	var l []uint32
	for _, e := range s.d.Log()[from:] {
		if e.Kind != api.RawRead {
			s.t.Errorf("a raw step that is no read: %d of %d", e.Kind, e.At)
		}
		l = append(l, uint32(e.At))
	}
	if s.d.Events() != events {
		s.t.Error("there was an event")
	}
	slices.Sort(l)
	return slices.Compact(l)
}

// at is a position: an inode's number, or 0 for the table, a level and a place.
type at struct{ number, level, place int }

// refs is the references at all positions of a committed form, read by the layers below.
func (s *stand) refs(table api.Tree) map[at]api.Ref {
	s.t.Helper()
	refs := map[at]api.Ref{}
	s.refsOf(refs, 0, table)
	for p, r := range refs {
		if p.number != 0 || p.level != 0 {
			continue
		}
		b, _ := s.d.Read(int(r.At))
		four, _, err := inode.FromLeaf(b)
		if err != api.OK {
			s.t.Fatalf("the leaf %d of the table: %d", p.place, err)
		}
		for i, x := range four {
			s.refsOf(refs, 4*p.place+i+1, x.Tree)
		}
	}
	return refs
}

// refsOf is the references at all positions of a tree.
func (s *stand) refsOf(refs map[at]api.Ref, number int, t api.Tree) {
	s.t.Helper()
	l, err := tree.All(s.c, t)
	if err != api.OK {
		s.t.Fatalf("the tree of %d: %d", number, err)
	}
	for _, p := range l {
		refs[at{number, p.Level, p.Place}] = p.Ref
	}
}

// junk is a block that no tree has here.
func junk() api.Block {
	return api.Block{0: 0xee, 100: 0xdd, 255: 0xcc}
}

// some is so many entries, whose names do not stand in their order, of inodes from 2 on that have several each.
func some(many int) []api.Link {
	l := make([]api.Link, many)
	for i := range l {
		l[i] = api.Link{Inode: 2 + i/3%4000, Name: fmt.Sprintf("n%05d", i*7919%16384)}
	}
	return l
}

// long is a name of the greatest length.
func long() string {
	return strings.Repeat("x", 56)
}

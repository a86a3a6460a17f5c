package inodes_test

import (
	"fmt"
	"math"
	"slices"
	"testing"

	"signet/api"
	"signet/block"
	"signet/cache"
	"signet/digest"
	"signet/disk"
	"signet/inode"
	"signet/inodes"
	"signet/node"
	"signet/tree"
)

const (
	file = api.KindFile
	dir  = api.KindDir
)

// noNumbers is numbers that no inode has.
var noNumbers = []int{-1, 0, api.MaxInodes + 1, math.MinInt, math.MaxInt, -api.MaxInodes, 1 << 32, 1<<32 + 1}

// noPlaces is places at which no inode has a leaf.
var noPlaces = []int{-1, 4096, 4097, math.MinInt, math.MaxInt, 1 << 32}

// stand is a cache, what it stands on, and which block is written next.
type stand struct {
	t    *testing.T
	c    *cache.Cache
	d    *disk.Disk
	log  *digest.Log
	next uint32
}

// made is a cache on a disk of zeros.
func made(t *testing.T, blocks, room int) *stand {
	t.Helper()
	d, err := disk.New(blocks)
	if err != api.OK {
		t.Fatal(err)
	}
	log := digest.NewLog()
	c, err := cache.New(d, log, room)
	if err != api.OK {
		t.Fatal(err)
	}
	return &stand{t, c, d, log, 1}
}

// full is a leaf that is unlike that of any other number, with its last byte not zero.
func full(n int) api.Block {
	return api.Block{0: byte(n), 7: byte(n >> 8), 128: 3, 255: 1}
}

// upTo is a leaf's first bytes.
func upTo(b api.Block, bytes int) api.Block {
	var short api.Block
	copy(short[:bytes], b[:])
	return short
}

// brief is enough of a leaf to tell it.
func brief(b api.Block) string {
	return fmt.Sprint(b[:8], b[128], b[255])
}

// lay writes a block behind the cache's back, where none was written yet.
func (s *stand) lay(b api.Block) api.Ref {
	s.t.Helper()
	r := api.Ref{At: s.next, Sum: block.Sum(b)}
	s.next++
	s.over(r.At, b)
	return r
}

// over writes a block over another one behind the cache's back.
func (s *stand) over(at uint32, b api.Block) {
	s.t.Helper()
	if err := s.d.Write(int(at), b); err != api.OK {
		s.t.Fatal(err)
	}
}

// four lays a leaf of the table.
func (s *stand) four(l ...api.Inode) api.Ref {
	s.t.Helper()
	var four [4]api.Inode
	copy(four[:], l)
	b, _, err := inode.Leaf(four)
	if err != api.OK {
		s.t.Fatal(err)
	}
	return s.lay(b)
}

// node lays a node.
func (s *stand) node(level int, kids ...api.Ref) api.Ref {
	s.t.Helper()
	n := api.Node{Level: level}
	copy(n.Kids[:], kids)
	b, err := node.Block(n)
	if err != api.OK {
		s.t.Fatal(err)
	}
	return s.lay(b)
}

// open is inodes on a committed table.
func (s *stand) open(table api.Tree, high int) *inodes.Inodes {
	s.t.Helper()
	x, err := inodes.Open(s.c, table, high)
	if x == nil || err != api.OK {
		s.t.Fatalf("Open(%v, %d) = %v, %d", table, high, x, err)
	}
	return x
}

// empty is inodes without any.
func (s *stand) empty() *inodes.Inodes {
	s.t.Helper()
	return s.open(api.Tree{}, 0)
}

// make makes an inode.
func (s *stand) make(x *inodes.Inodes, kind int) int {
	s.t.Helper()
	n, err := x.Make(kind, 1)
	if err != api.OK {
		s.t.Fatalf("Make = %d, %d", n, err)
	}
	return n
}

// ok asks that calls were OK.
func (s *stand) ok(errs ...api.Errno) {
	s.t.Helper()
	for i, err := range errs {
		if err != api.OK {
			s.t.Fatalf("the call %d of %d: %d", i, len(errs), err)
		}
	}
}

// take tells the numbers of blocks that were not written yet.
func (s *stand) take() (uint32, api.Errno) {
	s.next++
	return s.next - 1, api.OK
}

// write writes what was laid out.
func (s *stand) write(out api.Out) {
	s.t.Helper()
	for _, w := range out.Writes {
		s.over(w.At, w.Data)
	}
}

// out lays inodes out.
func (s *stand) out(x *inodes.Inodes) api.Out {
	s.t.Helper()
	out, err := x.Out(s.take)
	if err != api.OK {
		s.t.Fatalf("Out: %d", err)
	}
	return out
}

// commit lays inodes out, writes that, and opens it.
func (s *stand) commit(x *inodes.Inodes) (*inodes.Inodes, api.Out) {
	s.t.Helper()
	out := s.out(x)
	s.write(out)
	return s.open(out.Table, out.High), out
}

// news asks how much is new.
func (s *stand) news(what string, x *inodes.Inodes, want int) {
	s.t.Helper()
	if n, err := x.New(); n != want || err != api.OK {
		s.t.Errorf("%s: New = %d, %d; want %d", what, n, err, want)
	}
}

// info asks what an inode is.
func (s *stand) info(x *inodes.Inodes, want api.Info) {
	s.t.Helper()
	if i, err := x.Get(want.Number); i != want || err != api.OK {
		s.t.Errorf("Get(%d) = %v, %d; want %v", want.Number, i, err, want)
	}
}

// leaf asks for a leaf.
func (s *stand) leaf(x *inodes.Inodes, n, place int, want api.Block) {
	s.t.Helper()
	if b, err := x.Leaf(n, place); b != want || err != api.OK {
		s.t.Errorf("Leaf(%d, %d) = %v, %d; want %v", n, place, brief(b), err, brief(want))
	}
}

// all asks for the numbers in use.
func (s *stand) all(x *inodes.Inodes, want ...int) {
	s.t.Helper()
	if l, err := x.All(); !slices.Equal(l, want) || err != api.OK {
		s.t.Errorf("All = %v, %d; want %v", l, err, want)
	}
	high := 0
	if len(want) > 0 {
		high = want[len(want)-1]
	}
	if n, err := x.High(); n != high || err != api.OK {
		s.t.Errorf("High = %d, %d; want %d", n, err, high)
	}
}

// dies cuts the power.
func (s *stand) dies() {
	s.d.Cut(api.Cut{Event: s.d.Events()})
	s.d.Event()
}

// reads is the blocks that something reads raw, each once, rising. Nothing may be written.
func (s *stand) reads(do func()) []uint32 {
	s.t.Helper()
	from, events := len(s.d.Log()), s.d.Events()
	do()
	var l []uint32
	for _, e := range s.d.Log()[from:] {
		if e.Kind != api.RawRead {
			s.t.Errorf("a raw step that is no read: %d of %d", e.Kind, e.At)
		}
		l = append(l, uint32(e.At))
	}
	if s.d.Events() != events {
		s.t.Error("there was an event")
	}
	slices.Sort(l)
	return slices.Compact(l)
}

// quietly asks that something neither reads nor digests.
func (s *stand) quietly(what string, do func()) {
	s.t.Helper()
	digested := s.log.Len()
	if l := s.reads(do); len(l) != 0 {
		s.t.Errorf("%s read the blocks %v", what, l)
	}
	if s.log.Len() != digested {
		s.t.Errorf("%s digested something", what)
	}
}

// at is a position: an inode's number, or 0 for the table, a level and a place.
type at struct{ number, level, place int }

// refs is the references at all positions of a committed form, read by the layers below.
func (s *stand) refs(table api.Tree) map[at]api.Ref {
	s.t.Helper()
	refs := map[at]api.Ref{}
	s.refsOf(refs, 0, table)
	for p, r := range refs {
		if p.number != 0 || p.level != 0 {
			continue
		}
		b, _ := s.d.Read(int(r.At))
		four, _, err := inode.FromLeaf(b)
		if err != api.OK {
			s.t.Fatalf("the leaf %d of the table: %d", p.place, err)
		}
		for i, x := range four {
			s.refsOf(refs, 4*p.place+i+1, x.Tree)
		}
	}
	return refs
}

// refsOf is the references at all positions of a tree.
func (s *stand) refsOf(refs map[at]api.Ref, number int, t api.Tree) {
	s.t.Helper()
	l, err := tree.All(s.c, t)
	if err != api.OK {
		s.t.Fatalf("the tree of %d: %d", number, err)
	}
	for _, p := range l {
		refs[at{number, p.Level, p.Place}] = p.Ref
	}
}

// counter tells block numbers from one on, and an error in place of the last of so many calls, if that is not 0.
type counter struct {
	next  uint32
	calls int
	stop  int
	err   api.Errno
}

func (c *counter) take() (uint32, api.Errno) {
	c.calls++
	if c.calls == c.stop {
		return c.next, c.err
	}
	c.next++
	return c.next - 1, api.OK
}

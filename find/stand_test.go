package find_test

import (
	"slices"
	"strings"
	"testing"
	"unsafe"

	"signet/api"
	"signet/block"
	"signet/cache"
	"signet/disk"
	"signet/inode"
	"signet/inodes"
	"signet/tree"
)

// stand is a cache, the disk it stands on, and which block is written next.
type stand struct {
	t    *testing.T
	c    *cache.Cache
	d    *disk.Disk
	next uint32
}

// made is a cache on a disk of zeros.
func made(t *testing.T, blocks, room int) *stand {
	t.Helper()
	d, err := disk.New(blocks)
	if err != api.OK {
		t.Fatal(err)
	}
	c, err := cache.New(d, nil, room)
	if err != api.OK {
		t.Fatal(err)
	}
	return &stand{t, c, d, 1}
}

// open is inodes on a committed table.
func (s *stand) open(table api.Tree, high int) *inodes.Inodes {
	s.t.Helper()
	x, err := inodes.Open(s.c, table, high)
	if x == nil || err != api.OK {
		s.t.Fatalf("Open(%v, %d) = %v, %d", table, high, x, err)
	}
	return x
}

// take tells the numbers of blocks that were not written yet.
func (s *stand) take() (uint32, api.Errno) {
	s.next++
	return s.next - 1, api.OK
}

// commit lays inodes out, writes that, and opens it.
func (s *stand) commit(x *inodes.Inodes) (*inodes.Inodes, api.Out) {
	s.t.Helper()
	out, err := x.Out(s.take)
	if err != api.OK {
		s.t.Fatalf("Out: %d", err)
	}
	for _, w := range out.Writes {
		s.over(w.At, w.Data)
	}
	return s.open(out.Table, out.High), out
}

// over writes a block behind the cache's back.
func (s *stand) over(at uint32, b api.Block) {
	s.t.Helper()
	if err := s.d.Write(int(at), b); err != api.OK {
		s.t.Fatal(err)
	}
}

// lay writes a block where none was written yet.
func (s *stand) lay(b api.Block) api.Ref {
	s.t.Helper()
	at, _ := s.take()
	s.over(at, b)
	return api.Ref{At: at, Sum: block.Sum(b)}
}

// tableOf is inodes on a table of one leaf with these, whatever they refer to.
func (s *stand) tableOf(four [4]api.Inode) *inodes.Inodes {
	s.t.Helper()
	b, _, err := inode.Leaf(four)
	if err != api.OK {
		s.t.Fatal(err)
	}
	high := 4
	for four[high-1].Kind == api.KindNone {
		high--
	}
	return s.open(api.Tree{Root: s.lay(b)}, high)
}

// dies cuts the power.
func (s *stand) dies() {
	s.d.Cut(api.Cut{Event: s.d.Events()})
	s.d.Event()
}

// reads is the blocks that something reads raw, each once, rising. Nothing may be written.
func (s *stand) reads(do func()) []uint32 {
	s.t.Helper()
	from, events := len(s.d.Log()), s.d.Events()
	do()
	var l []uint32
	for _, e := range s.d.Log()[from:] {
		if e.Kind != api.RawRead {
			s.t.Errorf("a raw step that is no read: %d of %d", e.Kind, e.At)
		}
		l = append(l, uint32(e.At))
	}
	if s.d.Events() != events {
		s.t.Error("there was an event")
	}
	slices.Sort(l)
	return slices.Compact(l)
}

// at is a position: an inode's number, or 0 for the table, a level and a place.
type at struct{ number, level, place int }

// refs is the references at all positions of a committed form, read by the layers below.
func (s *stand) refs(table api.Tree) map[at]api.Ref {
	s.t.Helper()
	refs := map[at]api.Ref{}
	s.refsOf(refs, 0, table)
	var leaves []at
	for p := range refs {
		if p.level == 0 {
			leaves = append(leaves, p)
		}
	}
	for _, p := range leaves {
		b, _ := s.d.Read(int(refs[p].At))
		four, _, err := inode.FromLeaf(b)
		if err != api.OK {
			s.t.Fatalf("the leaf %d of the table: %d", p.place, err)
		}
		for i, x := range four {
			s.refsOf(refs, 4*p.place+i+1, x.Tree)
		}
	}
	return refs
}

// refsOf is the references at all positions of a tree.
func (s *stand) refsOf(refs map[at]api.Ref, number int, t api.Tree) {
	s.t.Helper()
	l, err := tree.All(s.c, t)
	if err != api.OK {
		s.t.Fatalf("the tree of %d: %d", number, err)
	}
	for _, p := range l {
		refs[at{number, p.Level, p.Place}] = p.Ref
	}
}

// junk is a block that no tree has here.
func junk() api.Block {
	return api.Block{0: 0xee, 100: 0xdd, 255: 0xcc}
}

// rep is a text, several times.
func rep(s string, many int) string {
	return strings.Repeat(s, many)
}

// long is a name of the greatest length, which begins with a text.
func long(s string) string {
	return s + rep("x", 56-len(s))
}

// deep is a path of that many names.
func deep(many int) string {
	var b strings.Builder
	for i := range many {
		b.WriteString("/" + string(rune('a'+i%26)) + rep("'", i/26))
	}
	return b.String()
}

// apart tells whether two texts lie in memory that they do not share.
func apart(a, b string) bool {
	if a == "" || b == "" {
		return true
	}
	x, y := uintptr(unsafe.Pointer(unsafe.StringData(a))), uintptr(unsafe.Pointer(unsafe.StringData(b)))
	return x+uintptr(len(a)) <= y || y+uintptr(len(b)) <= x
}

// short is a text, short enough to be told.
func short(s string) string {
	if len(s) > 400 {
		return s[:200] + " .. " + s[len(s)-196:]
	}
	return s
}

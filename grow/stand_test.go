package grow_test

import (
	"slices"
	"testing"

	"signet/api"
	"signet/block"
	"signet/cache"
	"signet/digest"
	"signet/disk"
	"signet/grow"
	"signet/node"
)

// capacities is how many leaves a tree of each height has.
var capacities = []int{1, 4, 16, 64, 256, 1024, 4096}

// stand is a cache, what it stands on, and which block is written next.
type stand struct {
	t    *testing.T
	c    *cache.Cache
	d    *disk.Disk
	log  *digest.Log
	next uint32
}

// many is how many blocks a disk has here.
const many = 512

// made is a cache on a disk of zeros.
func made(t *testing.T, room int) *stand {
	t.Helper()
	d, err := disk.New(many)
	if err != api.OK {
		t.Fatal(err)
	}
	log := digest.NewLog()
	c, err := cache.New(d, log, room)
	if err != api.OK {
		t.Fatal(err)
	}
	return &stand{t, c, d, log, 1}
}

// full is a leaf that is unlike that of any other number.
func full(n int) api.Block {
	return api.Block{0: byte(n), 7: byte(n >> 8), 255: 1}
}

// at is a level and a place.
type at [2]int

// kid is a position beneath another one.
func (p at) kid(i int) at { return at{p[0] - 1, 4*p[1] + i} }

// up is the position above a leaf's at a level.
func up(place, level int) at { return at{level, place >> (2 * level)} }

// positions is all positions of a height, by levels from 0 on, earlier places first.
func positions(height int) []at {
	var l []at
	for level := range height + 1 {
		for place := range capacities[height-level] {
			l = append(l, at{level, place})
		}
	}
	return l
}

// laid is a tree that lies on a disk.
type laid struct {
	api.Tree
	leaves map[int]api.Block
	refs   map[at]api.Ref
}

// none is a tree without leaves.
func none(height int) laid {
	return laid{Tree: api.Tree{Height: height}}
}

// lay writes a block behind the cache's back, where none was written yet.
func (s *stand) lay(b api.Block) api.Ref {
	s.t.Helper()
	r := api.Ref{At: s.next, Sum: block.Sum(b)}
	s.next++
	s.over(r, b)
	return r
}

// over writes a block over another one behind the cache's back.
func (s *stand) over(r api.Ref, b api.Block) {
	s.t.Helper()
	if err := s.d.Write(int(r.At), b); err != api.OK {
		s.t.Fatal(err)
	}
}

// tree lays a tree with these leaves.
func (s *stand) tree(height int, leaves map[int]api.Block) laid {
	s.t.Helper()
	x := laid{leaves: leaves, refs: map[at]api.Ref{}}
	x.Tree = api.Tree{Height: height, Root: s.hang(x, at{height, 0})}
	return x
}

// hang lays what hangs at a position, and tells its reference.
func (s *stand) hang(x laid, p at) api.Ref {
	s.t.Helper()
	var b api.Block
	if p[0] == 0 {
		b = x.leaves[p[1]]
	} else if n := (api.Node{Level: p[0]}); hasLeaf(x.leaves, p) {
		for i := range 4 {
			n.Kids[i] = s.hang(x, p.kid(i))
		}
		b = nodeBlock(s.t, n)
	}
	if b != (api.Block{}) {
		x.refs[p] = s.lay(b)
	}
	return x.refs[p]
}

// hasLeaf tells whether a leaf beneath a position is not zeros.
func hasLeaf(leaves map[int]api.Block, p at) bool {
	for place, b := range leaves {
		if up(place, p[0]) == p && b != (api.Block{}) {
			return true
		}
	}
	return false
}

// nodeBlock is a node's block.
func nodeBlock(t *testing.T, n api.Node) api.Block {
	t.Helper()
	b, err := node.Block(n)
	if err != api.OK {
		t.Fatal(err)
	}
	return b
}

// some is leaves in these places.
func some(places ...int) map[int]api.Block {
	l := map[int]api.Block{}
	for _, place := range places {
		l[place] = full(place + 1)
	}
	return l
}

// every is leaves in all places of a height.
func every(height int) map[int]api.Block {
	l := map[int]api.Block{}
	for place := range capacities[height] {
		l[place] = full(place + 1)
	}
	return l
}

// grown is a grown tree that stands on a tree, and what it must be.
func (s *stand) grown(x laid) (*grow.Grow, *model) {
	s.t.Helper()
	g, err := grow.New(s.c, x.Tree)
	if g == nil || err != api.OK {
		s.t.Fatalf("New = %v, %d", g, err)
	}
	return g, stood(x)
}

// dies cuts the power.
func (s *stand) dies() {
	s.d.Cut(api.Cut{Event: s.d.Events()})
	s.d.Event()
}

// read is the blocks that something reads raw, each once, rising. Nothing may be written.
func (s *stand) read(do func()) []uint32 {
	s.t.Helper()
	from, events := len(s.d.Log()), s.d.Events()
	do()
	var l []uint32
	for _, e := range s.d.Log()[from:] {
		if e.Kind != api.RawRead {
			s.t.Errorf("a raw step that is no read: %d of %d", e.Kind, e.At)
		}
		l = append(l, uint32(e.At))
	}
	if s.d.Events() != events {
		s.t.Error("there was an event")
	}
	slices.Sort(l)
	return slices.Compact(l)
}

// reads asks what something reads raw.
func (s *stand) reads(what string, want []uint32, do func()) {
	s.t.Helper()
	if got := s.read(do); !slices.Equal(got, want) {
		s.t.Errorf("%s read the blocks %v, want %v", what, got, want)
	}
}

// quietly asks that something neither reads nor digests.
func (s *stand) quietly(what string, do func()) {
	s.t.Helper()
	digested := s.log.Len()
	s.reads(what, nil, do)
	if s.log.Len() != digested {
		s.t.Errorf("%s digested something", what)
	}
}

// counter tells block numbers from one on, and how often it was asked.
type counter struct {
	next  uint32
	calls int
}

func (c *counter) take() (uint32, api.Errno) {
	c.calls++
	c.next++
	return c.next - 1, api.OK
}

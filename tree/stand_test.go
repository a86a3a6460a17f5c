package tree_test

import (
	"slices"
	"testing"

	"signet/api"
	"signet/block"
	"signet/cache"
	"signet/digest"
	"signet/disk"
	"signet/node"
)

// stand is a cache, what it stands on, and which block is written next.
type stand struct {
	t    *testing.T
	c    *cache.Cache
	d    *disk.Disk
	next uint32
}

// many is how many blocks a disk has here.
const many = 512

// made is a cache on a disk of zeros.
func made(t *testing.T, room int) *stand {
	t.Helper()
	d, err := disk.New(many)
	if err != api.OK {
		t.Fatal(err)
	}
	c, err := cache.New(d, digest.NewLog(), room)
	if err != api.OK {
		t.Fatal(err)
	}
	return &stand{t, c, d, 1}
}

// full is a leaf that is unlike that of any other number.
func full(n int) api.Block {
	return api.Block{0: byte(n), 7: byte(n >> 8), 255: 1}
}

// at is a level and a place.
type at [2]int

// beneath is all positions from one on to the leaves, that one first, earlier places first.
func beneath(p at) []at {
	l := []at{p}
	for i := range 4 {
		if p[0] > 0 {
			l = append(l, beneath(at{p[0] - 1, 4*p[1] + i})...)
		}
	}
	return l
}

// up is the position that is above another one at a level.
func up(p at, level int) at {
	return at{level, p[1] >> (2 * (level - p[0]))}
}

// plan is what a tree shall be: its leaves, and what lies where something else than a node shall.
type plan struct {
	height int
	leaves map[int]api.Block
	odd    map[at]api.Block
}

// grown is a tree that lies on the disk.
type grown struct {
	api.Tree
	plan
	refs map[at]api.Ref
}

// lay writes a block behind the cache's back, where none was written yet.
func (s *stand) lay(b api.Block) api.Ref {
	s.t.Helper()
	r := api.Ref{At: s.next, Sum: block.Sum(b)}
	s.next++
	s.over(r, b)
	return r
}

// over writes a block over another one behind the cache's back.
func (s *stand) over(r api.Ref, b api.Block) {
	s.t.Helper()
	if err := s.d.Write(int(r.At), b); err != api.OK {
		s.t.Fatal(err)
	}
}

// grow lays a tree.
func (s *stand) grow(p plan) grown {
	s.t.Helper()
	g := grown{plan: p, refs: map[at]api.Ref{}}
	g.Tree = api.Tree{Height: p.height, Root: s.hang(g, at{p.height, 0})}
	return g
}

// hang lays what hangs at a position, and tells its reference.
func (s *stand) hang(g grown, p at) api.Ref {
	s.t.Helper()
	if b, is := g.odd[p]; is {
		g.refs[p] = s.lay(b)
		return g.refs[p]
	}
	if p[0] == 0 {
		if b, is := g.leaves[p[1]]; is {
			g.refs[p] = s.lay(b)
		}
		return g.refs[p]
	}
	n := api.Node{Level: p[0]}
	for i := range 4 {
		n.Kids[i] = s.hang(g, at{p[0] - 1, 4*p[1] + i})
	}
	if n != (api.Node{Level: p[0]}) {
		g.refs[p] = s.lay(nodeBlock(s.t, n))
	}
	return g.refs[p]
}

// nodeBlock is a node's block.
func nodeBlock(t *testing.T, n api.Node) api.Block {
	t.Helper()
	b, err := node.Block(n)
	if err != api.OK {
		t.Fatal(err)
	}
	return b
}

// some is leaves in these places.
func some(places ...int) map[int]api.Block {
	l := map[int]api.Block{}
	for _, place := range places {
		l[place] = full(place + 1)
	}
	return l
}

// every is leaves in all places of a height.
func every(height int) map[int]api.Block {
	l := map[int]api.Block{}
	for place := range capacities[height] {
		l[place] = full(place + 1)
	}
	return l
}

// spoil writes over what lies at a position.
func (s *stand) spoil(g grown, p at) {
	s.t.Helper()
	s.over(g.refs[p], full(9999))
}

// dies cuts the power.
func (s *stand) dies() {
	s.d.Cut(api.Cut{Event: s.d.Events()})
	s.d.Event()
}

// keeps reads what lies at positions into the cache.
func (s *stand) keeps(g grown, l ...at) {
	s.t.Helper()
	for _, p := range l {
		if _, err := s.c.Get(g.refs[p]); err != api.OK {
			s.t.Fatal(err)
		}
	}
}

// read is the blocks that something reads raw, each once, in the order in which they are first read: how often each is read is free.
func (s *stand) read(do func()) []uint32 {
	from := len(s.d.Log())
	do()
	var l []uint32
	for _, e := range s.d.Log()[from:] {
		if e.Kind != api.RawRead {
			s.t.Errorf("a raw step that is no read: %v", e)
		}
		if at := uint32(e.At); !slices.Contains(l, at) {
			l = append(l, at)
		}
	}
	return l
}

// reads asks what something reads raw.
func (s *stand) reads(what string, want []uint32, do func()) {
	s.t.Helper()
	if got := s.read(do); !slices.Equal(got, want) {
		s.t.Errorf("%s read the blocks %v, want %v", what, got, want)
	}
}

// lie is where the blocks at positions lie.
func (g grown) lie(l ...at) []uint32 {
	var numbers []uint32
	for _, p := range l {
		numbers = append(numbers, g.refs[p].At)
	}
	return numbers
}

// positions is all positions of a tree whose references are not none, in the order in which they are told.
func (g grown) positions() []api.Pos {
	var l []api.Pos
	for _, p := range beneath(at{g.height, 0}) {
		if r, is := g.refs[p]; is {
			l = append(l, api.Pos{Level: p[0], Place: p[1], Ref: r})
		}
	}
	return l
}

// nodes is where the nodes of a tree lie, in the order in which they are read.
func (g grown) nodes() []uint32 {
	var l []uint32
	for _, p := range g.positions() {
		if p.Level > 0 {
			l = append(l, p.Ref.At)
		}
	}
	return l
}

// way is the positions on the way to a leaf that are not none.
func (g grown) way(place int) []at {
	var l []at
	for level := g.height; level >= 0; level-- {
		p := up(at{0, place}, level)
		if _, is := g.refs[p]; !is {
			break
		}
		l = append(l, p)
	}
	return l
}

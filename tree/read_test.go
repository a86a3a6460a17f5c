package tree_test

import (
	"slices"
	"testing"

	"signet/api"
	"signet/block"
	"signet/tree"
)

// shapes is trees of all heights: none, with one leaf somewhere, with gaps, and, of the lower ones, with all leaves.
func shapes() []plan {
	var l []plan
	for height, many := range capacities {
		l = append(l, plan{height: height}, plan{height: height, leaves: some(0)}, plan{height: height, leaves: some(many - 1)}, plan{height: height, leaves: some(many/2, many/3, many-1)})
		if height <= 4 {
			l = append(l, plan{height: height, leaves: every(height)})
		}
	}
	// A leaf of zeros and a node of four nones that lie somewhere are no nones.
	l = append(l, plan{leaves: map[int]api.Block{0: {}}}, plan{height: 2, leaves: map[int]api.Block{1: {}, 9: full(3)}})
	l = append(l, plan{height: 1, odd: map[at]api.Block{{1, 0}: {'n', 'o', 'd', 'e', 1}}})
	return append(l, plan{height: 3, leaves: some(60), odd: map[at]api.Block{{2, 1}: {'n', 'o', 'd', 'e', 2}, {1, 3}: {'n', 'o', 'd', 'e', 1}}})
}

// asked is places at the edges of a tree's parts.
func asked(g grown) []int {
	many := capacities[g.height]
	l := []int{0, 1, 2, 3, 4, 5, 15, 16, 17, 63, 64, many / 3, many / 2, many - 2, many - 1}
	for place := range g.leaves {
		l = append(l, place, place+1, place-1)
	}
	l = slices.DeleteFunc(l, func(place int) bool { return place < 0 || place >= many })
	slices.Sort(l)
	return slices.Compact(l)
}

// 9.3

func TestLeaf(t *testing.T) {
	for _, room := range []int{0, 2, 4096} {
		for _, p := range shapes() {
			s := made(t, room)
			g := s.grow(p)
			for _, place := range asked(g) {
				if b, err := tree.Leaf(s.c, g.Tree, place); b != p.leaves[place] || err != api.OK {
					t.Errorf("of the height %d: Leaf(%d) = %v, %d", p.height, place, b, err)
				}
			}
		}
	}
}

func TestRef(t *testing.T) {
	for _, room := range []int{0, 2, 4096} {
		for _, p := range shapes() {
			s := made(t, room)
			g := s.grow(p)
			for _, place := range asked(g) {
				for level := range p.height + 1 {
					x := up(at{0, place}, level)
					if r, err := tree.Ref(s.c, g.Tree, level, x[1]); r != g.refs[x] || err != api.OK {
						t.Errorf("of the height %d: Ref(%v) = %v, %d; want %v", p.height, x, r, err, g.refs[x])
					}
				}
			}
		}
	}
}

func TestBlocks(t *testing.T) {
	for _, room := range []int{0, 2, 4096} {
		for _, p := range shapes() {
			s := made(t, room)
			g := s.grow(p)
			for _, place := range asked(g) {
				got, err := tree.Blocks(s.c, g.Tree, place)
				var want []api.Block
				image := s.d.Image()
				for _, number := range g.lie(g.way(place)...) {
					want = append(want, image[number])
				}
				if !slices.Equal(got, want) || err != api.OK {
					t.Errorf("of the height %d: Blocks(%d) = %v, %d; want %v", p.height, place, got, err, want)
				}
			}
		}
	}
}

func TestRange(t *testing.T) {
	for _, p := range shapes() {
		many := capacities[p.height]
		s := made(t, 4096)
		g := s.grow(p)
		for _, from := range append(asked(g), many) {
			for _, n := range []int{0, 1, 2, 3, 4, 5, 16, 17, many - from - 1, many - from} {
				if n < 0 || from+n > many {
					continue
				}
				got, err := tree.Range(s.c, g.Tree, from, n)
				want := make([]api.Block, n)
				for i := range want {
					want[i] = p.leaves[from+i]
				}
				if !slices.Equal(got, want) || err != api.OK {
					t.Errorf("of the height %d: Range(%d, %d) = %v, %d", p.height, from, n, got, err)
				}
			}
		}
	}
}

// 9.5: leaf by leaf.
func TestRangeIsLeafByLeaf(t *testing.T) {
	for _, p := range shapes() {
		if p.height > 3 {
			continue
		}
		s := made(t, 2)
		g := s.grow(p)
		many := capacities[p.height]
		for from := range many {
			n := min(many-from, 7)
			got, err := tree.Range(s.c, g.Tree, from, n)
			if len(got) != n || err != api.OK {
				t.Fatalf("Range(%d, %d) = %d, %d", from, n, len(got), err)
			}
			for i, b := range got {
				if want, err := tree.Leaf(s.c, g.Tree, from+i); b != want || err != api.OK {
					t.Errorf("Range(%d, %d) at %d: %v, want %v, %d", from, n, i, b, want, err)
				}
			}
		}
	}
}

// 9.5: through the cache that wrote them.
func TestWhatWasPutIsRead(t *testing.T) {
	for _, room := range []int{0, 1, 100} {
		s := made(t, room)
		put := func(at uint32, b api.Block) api.Ref {
			r, err := s.c.Put(at, b)
			if err != api.OK {
				t.Fatal(err)
			}
			return r
		}
		n := api.Node{Level: 1}
		for i := range 4 {
			n.Kids[i] = put(uint32(100-i), full(i))
		}
		top := api.Node{Level: 2, Kids: [4]api.Ref{{}, put(7, nodeBlock(t, n)), {}, put(8, nodeBlock(t, n))}}
		x := api.Tree{Height: 2, Root: put(9, nodeBlock(t, top))}
		for place := range 16 {
			want := api.Block{}
			if place/4 == 1 || place/4 == 3 {
				want = full(place % 4)
			}
			if b, err := tree.Leaf(s.c, x, place); b != want || err != api.OK {
				t.Errorf("Leaf(%d) = %v, %d", place, b, err)
			}
		}
	}
}

// What is read

func TestLeafReadsItsWay(t *testing.T) {
	for _, p := range shapes() {
		s := made(t, 0)
		g := s.grow(p)
		for _, place := range asked(g) {
			want := g.lie(g.way(place)...)
			s.reads("Leaf", want, func() { tree.Leaf(s.c, g.Tree, place) })
			s.reads("Blocks", want, func() { tree.Blocks(s.c, g.Tree, place) })
			s.reads("Range", want, func() { tree.Range(s.c, g.Tree, place, 1) })
		}
	}
}

// What Ref answers is not read, and nothing beneath it.
func TestRefReadsWhatIsAhead(t *testing.T) {
	for _, p := range shapes() {
		s := made(t, 0)
		g := s.grow(p)
		for _, place := range asked(g) {
			for level := range p.height + 1 {
				way := slices.DeleteFunc(g.way(place), func(x at) bool { return x[0] <= level })
				s.reads("Ref", g.lie(way...), func() { tree.Ref(s.c, g.Tree, level, place>>(2*level)) })
			}
		}
	}
}

func TestRangeReadsWhatIsAsked(t *testing.T) {
	for _, p := range shapes() {
		if p.height > 3 {
			continue
		}
		s := made(t, 0)
		g := s.grow(p)
		many := capacities[p.height]
		for _, from := range append(asked(g), many) {
			for _, n := range []int{0, 1, 3, 4, 9, many - from} {
				if from+n > many {
					continue
				}
				var want []uint32
				for i := range n {
					for _, number := range g.lie(g.way(from + i)...) {
						if !slices.Contains(want, number) {
							want = append(want, number)
						}
					}
				}
				s.reads("Range", want, func() { tree.Range(s.c, g.Tree, from, n) })
			}
		}
	}
}

// Of no leaf nothing is read, whatever lies there.
func TestRangeOfNothing(t *testing.T) {
	s := made(t, 0)
	g := s.grow(plan{height: 2, leaves: every(2)})
	s.spoil(g, at{2, 0})
	for from := range 17 {
		s.reads("Range", nil, func() {
			if l, err := tree.Range(s.c, g.Tree, from, 0); len(l) != 0 || err != api.OK {
				t.Errorf("Range(%d, 0) = %v, %d", from, l, err)
			}
		})
	}
}

// Errors on the way

// fault is something that is wrong at a position of a tree, and what is told where it is met.
type fault struct {
	name  string
	want  api.Errno
	above bool // only at nodes
	// odd is what lies there, with a reference that says so; spoilt: else it is written over; else the power is cut, all ahead of it being kept.
	odd    func(level int) (api.Block, bool)
	spoilt bool
}

func faults() []fault {
	never := func(int) (api.Block, bool) { return api.Block{}, false }
	of := func(b api.Block) func(int) (api.Block, bool) {
		return func(int) (api.Block, bool) { return b, true }
	}
	level := func(by int) func(int) (api.Block, bool) {
		return func(level int) (api.Block, bool) {
			kid := api.Ref{At: 1, Sum: block.Sum(full(1))}
			b := api.Block{'n', 'o', 'd', 'e', byte(level + by), 0, 0, 0, byte(kid.At)}
			copy(b[12:], kid.Sum[:])
			return b, true
		}
	}
	return []fault{
		{"written over", api.ErrTampered, false, never, true},
		{"no power", api.ErrCut, false, never, false},
		{"a leaf", api.ErrNode, true, of(full(7)), false},
		{"zeros", api.ErrNode, true, of(api.Block{}), false},
		{"a level less", api.ErrNode, true, level(-1), false},
		{"a level more", api.ErrNode, true, level(1), false},
		{"bytes behind the references", api.ErrNode, true, func(level int) (api.Block, bool) {
			return api.Block{0: 'n', 1: 'o', 2: 'd', 3: 'e', 4: byte(level), 255: 1}, true
		}, false},
	}
}

// faulty is a tree with all leaves and a fault at a position.
func faulty(t *testing.T, room, height int, f fault, p at) (*stand, grown) {
	t.Helper()
	s := made(t, room)
	x := plan{height: height, leaves: every(height)}
	b, odd := f.odd(p[0])
	if odd {
		x.odd = map[at]api.Block{p: b}
	}
	g := s.grow(x)
	switch {
	case odd:
	case f.spoilt:
		s.spoil(g, p)
	default:
		for level := p[0] + 1; level <= height; level++ {
			s.keeps(g, up(p, level))
		}
		s.dies()
	}
	return s, g
}

// Each call that meets a fault tells it, at each height and each level, and others don't, unless there is no power.
func TestFaultsOnTheWay(t *testing.T) {
	for _, f := range faults() {
		for height := range 4 {
			for level := range height + 1 {
				if f.above && level == 0 {
					continue
				}
				for _, place := range []int{0, capacities[height-level] - 1, capacities[height-level] / 2} {
					t.Run(f.name, func(t *testing.T) { meets(t, f, height, at{level, place}) })
				}
			}
		}
	}
}

func meets(t *testing.T, f fault, height int, p at) {
	s, g := faulty(t, 100, height, f, p)
	first, many := p[1]<<(2*p[0]), capacities[p[0]]
	for place := first; place < first+many; place += max(1, many-1) {
		s.fails(g.Tree, leaf(place), f.want)
		s.fails(g.Tree, blocks(place), f.want)
		s.fails(g.Tree, leaves(place, 1), f.want)
		for level := range height + 1 {
			if r, err := tree.Ref(s.c, g.Tree, level, place>>(2*level)); level >= p[0] {
				if r != g.refs[up(at{0, place}, level)] || err != api.OK {
					t.Errorf("Ref(%d, %d) = %v, %d", level, place, r, err)
				}
			} else if r != (api.Ref{}) || err != f.want {
				t.Errorf("Ref(%d, %d) = %v, %d; want %d", level, place, r, err, f.want)
			}
		}
	}
	s.fails(g.Tree, leaves(first, many), f.want)
	if f.want == api.ErrCut {
		return // all else that is not kept is as bad
	}
	s.fails(g.Tree, leaves(0, capacities[height]), f.want)
	for place := range capacities[height] {
		if place < first || place >= first+many {
			s.answers(g.Tree, leaf(place))
			s.answers(g.Tree, blocks(place))
		}
	}
	s.answers(g.Tree, leaves(0, first))
	s.answers(g.Tree, leaves(first+many, capacities[height]-first-many))
	for _, call := range whole() {
		if p[0] > 0 {
			s.fails(g.Tree, call, f.want)
		} else {
			s.answers(g.Tree, call) // leaves are not read
		}
	}
}

// Of several errors the one that is met first is told: from the root on, earlier places first.
func TestWhichErrorComesFirst(t *testing.T) {
	s := made(t, 100)
	notANode := map[at]api.Block{{1, 1}: full(8)}
	g := s.grow(plan{height: 2, leaves: every(2), odd: notANode})
	s.spoil(g, at{0, 2})
	s.fails(g.Tree, leaves(2, 3), api.ErrTampered)
	s.fails(g.Tree, leaves(3, 2), api.ErrNode)
	s.fails(g.Tree, leaves(0, 16), api.ErrTampered)
	s.spoil(g, at{0, 8})
	s.fails(g.Tree, leaves(3, 13), api.ErrNode)
	s.spoil(g, at{1, 2})
	s.fails(g.Tree, leaves(3, 13), api.ErrNode)
	for _, call := range whole() {
		s.fails(g.Tree, call, api.ErrNode)
	}
	s.spoil(g, at{1, 0})
	s.c.Clear()
	for _, call := range whole() {
		s.fails(g.Tree, call, api.ErrTampered)
	}
	// The root is ahead of all.
	s.spoil(g, at{2, 0})
	s.c.Clear()
	for _, call := range append(whole(), leaf(4), blocks(4), ref(0, 4), leaves(4, 1)) {
		s.fails(g.Tree, call, api.ErrTampered)
	}
	s.answers(g.Tree, ref(2, 0))
}

// A block that is written over is no node either: its digest is asked ahead.
func TestDigestAheadOfNode(t *testing.T) {
	s := made(t, 0)
	g := s.grow(plan{height: 1, odd: map[at]api.Block{{1, 0}: full(1)}})
	s.fails(g.Tree, leaf(0), api.ErrNode)
	s.over(g.refs[at{1, 0}], full(2))
	s.fails(g.Tree, leaf(0), api.ErrTampered)
	// A right node of the right level, but of another digest.
	h := s.grow(plan{height: 1, leaves: every(1)})
	s.over(g.refs[at{1, 0}], s.d.Image()[h.Root.At])
	s.fails(g.Tree, leaf(0), api.ErrTampered)
}

// References that no block has.
func TestReferencesPastTheDisk(t *testing.T) {
	s := made(t, 10)
	for height := range 7 {
		for _, number := range []uint32{many, 1 << 31, 1<<32 - 1} {
			s.fails(api.Tree{}, leaf(0), api.OK)
			x := api.Tree{Height: height, Root: api.Ref{At: number, Sum: block.Sum(api.Block{})}}
			s.fails(x, leaf(0), api.ErrTampered)
			s.fails(x, blocks(0), api.ErrTampered)
			s.fails(x, leaves(0, capacities[height]), api.ErrTampered)
		}
	}
}

// What is kept is read without the disk.
func TestWithoutPowerByWhatIsKept(t *testing.T) {
	s := made(t, 100)
	g := s.grow(plan{height: 2, leaves: some(0, 1, 5)})
	s.keeps(g, at{2, 0}, at{1, 0}, at{0, 0})
	s.dies()
	if b, err := tree.Leaf(s.c, g.Tree, 0); b != full(1) || err != api.OK {
		t.Errorf("Leaf = %v, %d", b, err)
	}
	s.fails(g.Tree, leaf(1), api.ErrCut)
	s.fails(g.Tree, leaf(5), api.ErrCut)
	s.answers(g.Tree, leaf(2))
	s.answers(g.Tree, leaf(15))
	s.answers(g.Tree, blocks(0))
	s.fails(g.Tree, blocks(1), api.ErrCut)
	s.answers(g.Tree, ref(0, 1))
	s.fails(g.Tree, ref(0, 5), api.ErrCut)
	s.answers(g.Tree, ref(1, 1))
	s.fails(g.Tree, leaves(0, 2), api.ErrCut)
	s.answers(g.Tree, leaves(8, 8))
	for _, call := range whole() {
		s.fails(g.Tree, call, api.ErrCut)
	}
	s.d.Revive()
	s.answers(g.Tree, leaves(0, 16))
}

// An adversary that strikes between two reads of one call is met.
func TestAdversaryAmongReads(t *testing.T) {
	for op := range 3 {
		s := made(t, 0)
		g := s.grow(plan{height: 2, leaves: some(6)})
		way := g.lie(at{2, 0}, at{1, 1}, at{0, 6})
		s.d.Plan([]api.Step{{Op: s.d.Ops() + op, Kind: api.StepBlock, At: int(way[op]), Data: full(1)}})
		s.fails(g.Tree, leaf(6), api.ErrTampered)
	}
}

// R4
func TestBlocksAndRangeAreNewMemory(t *testing.T) {
	s := made(t, 100)
	g := s.grow(plan{height: 2, leaves: every(2)})
	for _, ask := range []func() []api.Block{
		func() []api.Block { l, _ := tree.Blocks(s.c, g.Tree, 3); return l },
		func() []api.Block { l, _ := tree.Range(s.c, g.Tree, 3, 4); return l },
	} {
		first := ask()
		held, second := slices.Clone(first), ask()
		spare := first[:cap(first)]
		for i := range spare {
			spare[i] = full(77)
		}
		if third := ask(); len(held) == 0 || !slices.Equal(second, held) || !slices.Equal(third, held) {
			t.Error("an answer hangs on another one")
		}
	}
}

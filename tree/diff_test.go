package tree_test

import (
	"maps"
	"slices"
	"testing"

	"signet/api"
	"signet/tree"
)

// with is a tree with another leaf in a place, laid beside the one that stands; the rest is shared. Without a block the leaf is none.
func (s *stand) with(g grown, place int, b *api.Block) grown {
	s.t.Helper()
	h := grown{plan: plan{height: g.height, leaves: maps.Clone(g.leaves)}, refs: maps.Clone(g.refs)}
	delete(h.refs, at{0, place})
	delete(h.leaves, place)
	if b != nil {
		h.refs[at{0, place}] = s.lay(*b)
		h.leaves[place] = *b
	}
	for level := 1; level <= h.height; level++ {
		s.knot(h, up(at{0, place}, level))
	}
	h.Tree = api.Tree{Height: h.height, Root: h.refs[at{h.height, 0}]}
	return h
}

// knot lays the node of a position anew, of what hangs beneath it.
func (s *stand) knot(g grown, p at) {
	s.t.Helper()
	n := api.Node{Level: p[0]}
	for i := range 4 {
		n.Kids[i] = g.refs[at{p[0] - 1, 4*p[1] + i}]
	}
	delete(g.refs, p)
	if n != (api.Node{Level: p[0]}) {
		g.refs[p] = s.lay(nodeBlock(s.t, n))
	}
}

// lifted is a tree of a greater height, in which another one hangs as its first part.
func (s *stand) lifted(g grown, height int) grown {
	s.t.Helper()
	h := grown{plan: plan{height: height, leaves: g.leaves}, refs: maps.Clone(g.refs)}
	for level := g.height + 1; level <= height; level++ {
		s.knot(h, at{level, 0})
	}
	h.Tree = api.Tree{Height: height, Root: h.refs[at{height, 0}]}
	return h
}

// told is what Diff must tell.
func told(a, b grown) []api.Pos {
	var l []api.Pos
	for _, p := range b.positions() {
		if old, is := a.refs[at{p.Level, p.Place}]; !is || old.Sum != p.Ref.Sum {
			l = append(l, p)
		}
	}
	return l
}

// needs is what Diff must read: the way to where a higher tree has the other one's root, and the nodes of both that differ, the first tree's first.
func needs(a, b grown) []uint32 {
	var l []uint32
	need := func(r api.Ref, is bool) {
		if is && !slices.Contains(l, r.At) {
			l = append(l, r.At)
		}
	}
	if b.Root == (api.Ref{}) {
		return nil
	}
	for level := a.height; level > b.height; level-- {
		r, is := a.refs[at{level, 0}]
		need(r, is)
	}
	for _, p := range told(a, b) {
		if p.Level > 0 {
			r, is := a.refs[at{p.Level, p.Place}]
			need(r, is)
			need(p.Ref, true)
		}
	}
	return l
}

// differ asks what Diff and Same of two trees answer and read.
func (s *stand) differ(a, b grown) {
	s.t.Helper()
	want := told(a, b)
	s.reads("Diff", needs(a, b), func() {
		s.t.Helper()
		if got, err := tree.Diff(s.c, a.Tree, b.Tree); !slices.Equal(got, want) || err != api.OK {
			s.t.Errorf("Diff of the heights %d and %d = %v, %d; want %v", a.height, b.height, got, err, want)
		}
	})
	alike := a.height == b.height && len(want) == 0 && len(told(b, a)) == 0
	all := needs(a, b)
	for _, n := range needs(b, a) {
		if !slices.Contains(all, n) {
			all = append(all, n)
		}
	}
	s.reads("Same", all, func() {
		s.t.Helper()
		if got, err := tree.Same(s.c, a.Tree, b.Tree); got != alike || err != api.OK {
			s.t.Errorf("Same of the heights %d and %d = %v, %d; want %v", a.height, b.height, got, err, alike)
		}
	})
}

// both asks it both ways.
func (s *stand) both(a, b grown) {
	s.t.Helper()
	s.differ(a, b)
	s.differ(b, a)
}

// 9.6

func TestDiffOfATreeWithItself(t *testing.T) {
	for _, p := range shapes() {
		s := made(t, 0)
		g := s.grow(p)
		s.reads("Diff and Same of a tree with itself", nil, func() {
			if l, err := tree.Diff(s.c, g.Tree, g.Tree); len(l) != 0 || err != api.OK {
				t.Errorf("Diff = %v, %d", l, err)
			}
			if is, err := tree.Same(s.c, g.Tree, g.Tree); !is || err != api.OK {
				t.Errorf("Same = %v, %d", is, err)
			}
		})
	}
}

func TestDiffInALeaf(t *testing.T) {
	for height, many := range capacities[:5] {
		for _, places := range [][]int{{0}, {many - 1}, {many / 2, many / 3}, {0, many / 4, many - 1}} {
			s := made(t, 0)
			g := s.grow(plan{height: height, leaves: some(places...)})
			for _, place := range []int{0, many / 4, many / 2, many - 1} {
				b := full(5000 + place)
				h := s.with(g, place, &b)
				s.both(g, h)
				s.both(h, s.with(h, many/3, &b))
				s.both(g, s.with(g, place, nil))
				zeros := api.Block{}
				s.both(g, s.with(g, place, &zeros))
			}
		}
	}
}

func TestDiffInALeafWrittenOut(t *testing.T) {
	s := made(t, 0)
	g := s.grow(plan{height: 2, leaves: every(2)})
	b := full(500)
	h := s.with(g, 6, &b)
	want := []api.Pos{{Level: 2, Ref: h.Root}, {Level: 1, Place: 1, Ref: h.refs[at{1, 1}]}, {Place: 6, Ref: h.refs[at{0, 6}]}}
	s.reads("Diff", []uint32{g.Root.At, h.Root.At, g.refs[at{1, 1}].At, h.refs[at{1, 1}].At}, func() {
		if got, err := tree.Diff(s.c, g.Tree, h.Tree); !slices.Equal(got, want) || err != api.OK {
			t.Errorf("Diff = %v, %d; want %v", got, err, want)
		}
	})
	// Where b has none nothing is told of what a has.
	h = s.with(g, 6, nil)
	want = []api.Pos{{Level: 2, Ref: h.Root}, {Level: 1, Place: 1, Ref: h.refs[at{1, 1}]}}
	if got, err := tree.Diff(s.c, g.Tree, h.Tree); !slices.Equal(got, want) || err != api.OK {
		t.Errorf("Diff = %v, %d; want %v", got, err, want)
	}
}

// A whole part that comes or goes.
func TestDiffInANode(t *testing.T) {
	for _, height := range []int{2, 3} {
		s := made(t, 0)
		g := s.grow(plan{height: height, leaves: every(height)})
		for _, part := range []int{0, 1, 3} {
			h := grown{plan: g.plan, refs: maps.Clone(g.refs)}
			for _, p := range beneath(at{1, part}) {
				delete(h.refs, p)
			}
			for level := 2; level <= height; level++ {
				s.knot(h, up(at{1, part}, level))
			}
			h.Tree = api.Tree{Height: height, Root: h.refs[at{height, 0}]}
			s.both(g, h)
		}
	}
}

// What lies elsewhere, but has the digest, is the same.
func TestDiffOfWhatLiesElsewhere(t *testing.T) {
	s := made(t, 0)
	for _, p := range shapes()[:12] {
		g := s.grow(p)
		if g.Root == (api.Ref{}) {
			continue
		}
		h := grown{plan: g.plan, refs: maps.Clone(g.refs)}
		h.Root = s.lay(s.d.Image()[g.Root.At])
		h.Height = g.height
		h.refs[at{g.height, 0}] = h.Root
		s.both(g, h)
		if is, err := tree.Same(s.c, g.Tree, h.Tree); !is || err != api.OK {
			t.Errorf("Same = %v, %d", is, err)
		}
	}
	// Leaves that lie elsewhere are the same, but the nodes above them say where they lie.
	g, h := s.grow(plan{height: 2, leaves: some(3, 9)}), s.grow(plan{height: 2, leaves: some(3, 9)})
	s.both(g, h)
	if l, err := tree.Diff(s.c, g.Tree, h.Tree); len(l) != 3 || err != api.OK {
		t.Errorf("Diff = %v, %d", l, err)
	}
	if is, err := tree.Same(s.c, g.Tree, h.Tree); is || err != api.OK {
		t.Errorf("Same = %v, %d", is, err)
	}
}

// A digest of zeros is not none's.
func TestDiffOfADigestOfZeros(t *testing.T) {
	s := made(t, 0)
	none, zero := api.Tree{}, api.Tree{Root: api.Ref{At: 5}}
	if l, err := tree.Diff(s.c, none, zero); !slices.Equal(l, []api.Pos{{Ref: zero.Root}}) || err != api.OK {
		t.Errorf("Diff = %v, %d", l, err)
	}
	if l, err := tree.Diff(s.c, zero, none); len(l) != 0 || err != api.OK {
		t.Errorf("Diff = %v, %d", l, err)
	}
	for _, c := range [][2]api.Tree{{none, zero}, {zero, none}} {
		if is, err := tree.Same(s.c, c[0], c[1]); is || err != api.OK {
			t.Errorf("Same = %v, %d", is, err)
		}
	}
	if is, err := tree.Same(s.c, zero, api.Tree{Root: api.Ref{At: 6}}); !is || err != api.OK {
		t.Errorf("Same = %v, %d", is, err)
	}
}

// Of another height a has the positions that it has.
func TestDiffInHeights(t *testing.T) {
	for low := range 6 {
		for high := low + 1; high <= 6; high++ {
			for _, places := range [][]int{{}, {0}, {capacities[low] - 1}, {0, capacities[low] / 2}} {
				s := made(t, 0)
				g := s.grow(plan{height: low, leaves: some(places...)})
				h := s.lifted(g, high)
				s.both(g, h)
				// The higher one says more: behind the lower one's leaves, among them, or both.
				b := full(777)
				last := s.with(h, capacities[high]-1, &b)
				s.both(g, last)
				s.both(g, s.with(h, capacities[low], &b))
				s.both(g, s.with(h, 0, &b))
				s.both(g, s.with(last, capacities[low]-1, &b))
				s.both(g, s.with(h, 0, nil))
			}
		}
	}
}

func TestDiffInHeightsWrittenOut(t *testing.T) {
	s := made(t, 0)
	g := s.grow(plan{height: 1, leaves: some(1)})
	h := s.lifted(g, 3)
	want := []api.Pos{{Level: 3, Ref: h.Root}, {Level: 2, Ref: h.refs[at{2, 0}]}}
	s.reads("Diff", []uint32{h.Root.At, want[1].Ref.At}, func() {
		if got, err := tree.Diff(s.c, g.Tree, h.Tree); !slices.Equal(got, want) || err != api.OK {
			t.Errorf("Diff = %v, %d; want %v", got, err, want)
		}
	})
	s.reads("Diff", []uint32{h.Root.At, want[1].Ref.At}, func() {
		if got, err := tree.Diff(s.c, h.Tree, g.Tree); len(got) != 0 || err != api.OK {
			t.Errorf("Diff = %v, %d", got, err)
		}
	})
	if is, err := tree.Same(s.c, g.Tree, h.Tree); is || err != api.OK {
		t.Errorf("Same = %v, %d", is, err)
	}
}

// The second tree is told whole, where the first is none; and nothing the other way, and nothing is read then.
func TestDiffOfNone(t *testing.T) {
	for height := range 7 {
		none := grown{Tree: api.Tree{Height: height}, plan: plan{height: height}}
		for _, p := range shapes() {
			if p.height > 3 || len(p.odd) > 0 {
				continue
			}
			s := made(t, 0)
			g := s.grow(p)
			s.both(none, g)
			if got, err := tree.Diff(s.c, none.Tree, g.Tree); !slices.Equal(got, g.positions()) || err != api.OK {
				t.Errorf("Diff = %v, %d", got, err)
			}
			s.reads("Diff", nil, func() {
				if got, err := tree.Diff(s.c, g.Tree, none.Tree); len(got) != 0 || err != api.OK {
					t.Errorf("Diff = %v, %d", got, err)
				}
			})
		}
		// None of another height is not the same.
		for other := range 7 {
			s := made(t, 0)
			if is, err := tree.Same(s.c, none.Tree, api.Tree{Height: other}); is != (height == other) || err != api.OK {
				t.Errorf("Same of none of the heights %d and %d = %v, %d", height, other, is, err)
			}
			s.both(none, grown{Tree: api.Tree{Height: other}, plan: plan{height: other}})
		}
	}
}

// pairs is trees that differ, on a disk.
func pairs(s *stand) [][2]grown {
	b := full(600)
	g := s.grow(plan{height: 2, leaves: some(0, 2, 5, 6, 15)})
	h := s.with(g, 6, &b)
	low := s.grow(plan{height: 1, leaves: some(0, 3)})
	high := s.lifted(low, 3)
	return [][2]grown{
		{g, h}, {g, s.with(g, 5, nil)}, {g, s.with(g, 9, &b)}, {g, s.with(h, 0, &b)}, {g, s.grow(plan{height: 2, leaves: some(0, 2, 5, 6, 15)})},
		{low, high}, {low, s.with(high, 63, &b)}, {low, s.with(high, 1, &b)}, {g, high}, {g, low},
		{g, grown{}}, {low, grown{Tree: api.Tree{Height: 4}, plan: plan{height: 4}}},
	}
}

// Each block that is written over is told just by those who need it, and by Same both ways.
func TestDiffOfWhatWasWrittenOver(t *testing.T) {
	for n := range pairs(made(t, 0)) {
		for turned := range 2 {
			for number := uint32(1); ; number++ {
				s := made(t, 0)
				pair := pairs(s)[n]
				if number >= s.next {
					break
				}
				a, b := pair[turned], pair[1-turned]
				s.over(api.Ref{At: number}, full(9999))
				meets := slices.Contains(needs(a, b), number)
				if meets {
					s.fails(api.Tree{}, diff(a.Tree, b.Tree), api.ErrTampered)
				} else if got, err := tree.Diff(s.c, a.Tree, b.Tree); !slices.Equal(got, told(a, b)) || err != api.OK {
					t.Errorf("Diff = %v, %d; want %v", got, err, told(a, b))
				}
				if meets || slices.Contains(needs(b, a), number) {
					s.fails(api.Tree{}, same(a.Tree, b.Tree), api.ErrTampered)
				} else {
					s.answers(api.Tree{}, same(a.Tree, b.Tree))
				}
			}
		}
	}
}

// Without power what must be read and is not kept is told.
func TestDiffWithoutPower(t *testing.T) {
	for n := range pairs(made(t, 0)) {
		for turned := range 2 {
			for kept := 0; ; kept++ {
				s := made(t, 100)
				pair := pairs(s)[n]
				a, b := pair[turned], pair[1-turned]
				must := needs(a, b)
				if kept > len(must) {
					break
				}
				for _, g := range pair {
					for p, r := range g.refs {
						if slices.Contains(must[:kept], r.At) {
							s.keeps(g, p)
						}
					}
				}
				s.dies()
				if kept < len(must) {
					s.fails(api.Tree{}, diff(a.Tree, b.Tree), api.ErrCut)
					s.fails(api.Tree{}, same(a.Tree, b.Tree), api.ErrCut)
				} else if got, err := tree.Diff(s.c, a.Tree, b.Tree); !slices.Equal(got, told(a, b)) || err != api.OK {
					t.Errorf("Diff = %v, %d; want %v", got, err, told(a, b))
				}
			}
		}
	}
}

// At one position the first tree is read ahead of the second; and earlier positions ahead of later ones.
func TestWhichErrorOfDiffComesFirst(t *testing.T) {
	s := made(t, 0)
	odd := func(p at, height int, b api.Block) grown {
		return s.grow(plan{height: height, leaves: every(height), odd: map[at]api.Block{p: b}})
	}
	node := odd(at{1, 0}, 1, full(1))
	over := s.grow(plan{height: 1, leaves: some(2)})
	s.spoil(over, at{1, 0})
	right := s.grow(plan{height: 1, leaves: some(1)})
	for _, c := range []struct {
		a, b       grown
		diff, same api.Errno
	}{
		{node, over, api.ErrNode, api.ErrNode}, {over, node, api.ErrTampered, api.ErrTampered},
		{node, right, api.ErrNode, api.ErrNode}, {right, node, api.ErrNode, api.ErrNode},
		{over, right, api.ErrTampered, api.ErrTampered}, {right, over, api.ErrTampered, api.ErrTampered},
		{grown{}, over, api.ErrTampered, api.ErrTampered}, {over, grown{}, api.OK, api.ErrTampered},
		{grown{}, node, api.ErrNode, api.ErrNode}, {node, grown{}, api.OK, api.ErrNode},
		{node, grown{Tree: api.Tree{Height: 6}}, api.OK, api.ErrNode},
	} {
		if l, err := tree.Diff(s.c, c.a.Tree, c.b.Tree); len(l) != 0 || err != c.diff {
			t.Errorf("Diff = %v, %d; want %d", l, err, c.diff)
		}
		s.fails(api.Tree{}, same(c.a.Tree, c.b.Tree), c.same)
	}
	early, late := odd(at{1, 0}, 2, full(3)), odd(at{1, 2}, 2, full(4))
	s.spoil(late, at{1, 2})
	s.fails(api.Tree{}, diff(early.Tree, late.Tree), api.ErrNode)
	s.fails(api.Tree{}, diff(late.Tree, early.Tree), api.ErrNode)
	early, late = odd(at{1, 2}, 2, full(3)), odd(at{1, 0}, 2, full(4))
	s.spoil(late, at{1, 0})
	s.fails(api.Tree{}, diff(early.Tree, late.Tree), api.ErrTampered)
	s.fails(api.Tree{}, diff(late.Tree, early.Tree), api.ErrTampered)
}

// A node of another level is none's here, too, on either side.
func TestDiffOfNodesOfOtherLevels(t *testing.T) {
	s := made(t, 0)
	g := s.grow(plan{height: 2, leaves: every(2)})
	for _, height := range []int{1, 3, 4, 5, 6} {
		x := api.Tree{Height: height, Root: g.Root}
		other := api.Tree{Height: height, Root: api.Ref{At: g.Root.At, Sum: api.Sum{1}}}
		s.fails(x, diff(api.Tree{}, x), api.ErrNode)
		s.fails(x, diff(x, other), api.ErrNode)
		s.fails(x, diff(other, x), api.ErrTampered)
		s.fails(x, diff(x, api.Tree{Root: g.Root}), api.ErrNode)
		s.answers(x, diff(x, x)) // not read
	}
}

// R4
func TestDiffIsNewMemory(t *testing.T) {
	s := made(t, 100)
	pair := pairs(s)[0]
	ask := func() []api.Pos {
		l, _ := tree.Diff(s.c, pair[0].Tree, pair[1].Tree)
		return l
	}
	first, second := ask(), ask()
	spare := first[:cap(first)]
	for i := range spare {
		spare[i] = api.Pos{Level: 9}
	}
	if want := told(pair[0], pair[1]); !slices.Equal(second, want) || !slices.Equal(ask(), want) {
		t.Error("an answer hangs on another one")
	}
}

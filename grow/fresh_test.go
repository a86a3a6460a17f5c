package grow_test

import (
	"slices"
	"testing"

	"signet/api"
	"signet/grow"
)

// change is something that is done with a grown tree.
type change struct {
	name string
	do   func(g *grow.Grow, m *model)
}

func set(name string, place int, b api.Block) change {
	return change{name, func(g *grow.Grow, m *model) {
		if err := g.Set(place, b); err != api.OK {
			panic("Set")
		}
		m.set(place, b)
	}}
}

func fit(name string, leaves int) change {
	return change{name, func(g *grow.Grow, m *model) {
		if err := g.Fit(leaves); err != api.OK {
			panic("Fit")
		}
		m.fit(leaves)
	}}
}

// 10.3

// With nothing set nothing is new and nothing goes, and nothing has to be read.
func TestNothingSet(t *testing.T) {
	for height, many := range capacities {
		for _, leaves := range []map[int]api.Block{{}, some(0), some(many - 1), some(0, many/2, many-1)} {
			s := made(t, 0)
			g, m := s.grown(s.tree(height, leaves))
			s.quietly("nothing set", func() { s.counts("nothing set", g, m) })
			for _, fits := range []int{many, 4 * many} {
				if fits <= 4096 {
					g.Fit(fits)
					m.fit(fits)
					s.quietly("a greater height", func() { s.counts("a greater height", g, m) })
				}
			}
		}
	}
}

// Where and what is told at each step.
func TestFreshAndGoneWrittenOut(t *testing.T) {
	s := made(t, 0)
	x := s.tree(2, some(0, 1, 6))
	g, m := s.grown(x)
	number := func(level, place int) uint32 { return x.refs[at{level, place}].At }
	asks := func(what string, fresh int, gone ...uint32) {
		t.Helper()
		slices.Sort(gone)
		if n, err := g.Fresh(); n != fresh || err != api.OK {
			t.Errorf("%s: Fresh = %d, %d; want %d", what, n, err, fresh)
		}
		if l, err := g.Gone(); !slices.Equal(l, gone) || err != api.OK {
			t.Errorf("%s: Gone = %v, %d; want %v", what, l, err, gone)
		}
		s.counts(what, g, m)
	}
	do := func(c change) { c.do(g, m) }
	root := number(2, 0)
	asks("nothing set", 0)
	do(set("", 0, full(1)))
	do(set("", 6, full(7)))
	asks("set to what it is", 0)
	do(set("", 0, full(30)))
	asks("changed", 3, number(0, 0), number(1, 0), root)
	do(set("", 1, full(31)))
	asks("its neighbour, too", 4, number(0, 0), number(0, 1), number(1, 0), root)
	do(set("", 0, full(1)))
	asks("the first one changed back", 3, number(0, 1), number(1, 0), root)
	do(set("", 1, full(2)))
	asks("both changed back", 0)
	do(set("", 6, api.Block{}))
	asks("the only leaf of a node set to zeros", 1, number(0, 6), number(1, 1), root)
	do(set("", 7, full(32)))
	asks("another leaf beneath that node", 3, number(0, 6), number(1, 1), root)
	do(set("", 7, api.Block{}))
	do(set("", 0, api.Block{}))
	do(set("", 1, api.Block{}))
	asks("all set to zeros", 0, number(0, 0), number(0, 1), number(0, 6), number(1, 0), number(1, 1), root)
	do(set("", 6, full(7)))
	asks("one of them set back", 1, number(0, 0), number(0, 1), number(1, 0), root)
	do(set("", 0, full(1)))
	do(set("", 1, full(2)))
	asks("all set back", 0)
	do(set("", 12, full(33)))
	asks("a leaf beneath none", 3, root)
}

// A height that grows and shrinks: what hangs in the first part is kept.
func TestFreshAndGoneOfHeights(t *testing.T) {
	s := made(t, 0)
	x := s.tree(1, some(0, 2))
	g, m := s.grown(x)
	asks := func(what string, fresh, gone int) {
		t.Helper()
		if n, err := g.Fresh(); n != fresh || err != api.OK {
			t.Errorf("%s: Fresh = %d, %d; want %d", what, n, err, fresh)
		}
		if l, err := g.Gone(); len(l) != gone || err != api.OK {
			t.Errorf("%s: Gone = %v, %d; want %d", what, l, err, gone)
		}
		s.counts(what, g, m)
	}
	do := func(c change) { c.do(g, m) }
	do(fit("", 16))
	asks("a node above", 1, 0)
	do(fit("", 4096))
	asks("five nodes above", 5, 0)
	do(set("", 4095, full(9)))
	asks("a leaf at the end", 5+6, 0)
	do(fit("", 4))
	asks("as it was", 0, 0)
	do(fit("", 3))
	asks("without a leaf that was none", 0, 0)
	do(fit("", 2))
	asks("without the second leaf", 1, 2)
	do(fit("", 1))
	asks("the first leaf alone", 0, 2)
	do(fit("", 4))
	asks("a node above it", 1, 2)
	do(set("", 2, full(3)))
	asks("the second leaf, set as it was", 0, 0)
	do(fit("", 1))
	do(set("", 0, full(40)))
	asks("another first leaf alone", 1, 3)
	do(fit("", 0))
	asks("nothing", 0, 3)
	do(fit("", 4096))
	asks("nothing, high", 0, 3)
}

// none of each height: only what is set is new.
func TestFreshBesideNone(t *testing.T) {
	for height, many := range capacities {
		s := made(t, 0)
		g, m := s.grown(none(height))
		s.quietly("a tree without leaves", func() {
			for _, place := range []int{0, many - 1, many / 2, 1 % many} {
				g.Set(place, full(place))
				m.set(place, full(place))
				s.counts("beside none", g, m)
				g.Set(many/3, api.Block{})
				m.set(many/3, api.Block{})
				s.counts("beside none", g, m)
			}
		})
	}
}

// changes is what one, two or three of these make of trees.
func changes() []change {
	return []change{
		set("a leaf set to what it is", 5, full(6)), set("a leaf changed", 5, full(50)), set("a leaf set to zeros", 5, api.Block{}),
		set("the first one changed", 0, full(51)), set("the first one set to zeros", 0, api.Block{}), set("a neighbour", 4, full(52)),
		fit("fit 0", 0), fit("fit 1", 1), fit("fit 4", 4), fit("fit 5", 5), fit("fit 6", 6), fit("fit 16", 16), fit("fit 17", 17), fit("fit 64", 64), fit("fit 65", 65),
	}
}

func TestFreshAndGoneOfChanges(t *testing.T) {
	for _, x := range []struct {
		height int
		leaves map[int]api.Block
	}{{2, every(2)}, {2, some(5)}, {2, some(0, 5)}, {2, nil}, {3, some(0, 5, 15, 16, 63)}, {4, some(5, 200)}, {3, some(63)}, {2, some(15)}} {
		s := made(t, 100)
		stands := s.tree(x.height, x.leaves)
		for _, a := range changes() {
			for _, b := range changes() {
				g, m := s.grown(stands)
				a.do(g, m)
				if capacities[m.height] < 6 {
					fit("", 16).do(g, m)
				}
				b.do(g, m)
				s.counts(a.name+", "+b.name, g, m)
				s.lays(a.name+", "+b.name, g, m)
			}
		}
	}
}

// What is kept and what goes are all blocks of the standing tree; and no two leaves that move nowhere are new.
func TestGoneAndKeptAreAll(t *testing.T) {
	for seed := range int64(60) {
		x := drawn(t, seed, 100)
		for range 4 {
			x.one()
		}
		gone, err := x.g.Gone()
		if err != api.OK {
			t.Fatal(err)
		}
		if !slices.IsSorted(gone) || len(slices.Compact(slices.Clone(gone))) != len(gone) {
			t.Errorf("Gone = %v does not rise", gone)
		}
		next, _ := x.m.lays(t, 300)
		all := slices.Clone(gone)
		for _, r := range next.refs {
			if r.At < 300 {
				all = append(all, r.At)
			}
		}
		slices.Sort(all)
		var want []uint32
		for _, r := range x.m.old.refs {
			want = append(want, r.At)
		}
		slices.Sort(want)
		if !slices.Equal(all, want) {
			t.Errorf("seed %d: what goes and what is kept are %v, the standing tree's %v", seed, all, want)
		}
	}
}

// A leaf with another one's bytes is new where it is now, and no leaf is kept because it stands elsewhere.
func TestLeavesThatMove(t *testing.T) {
	s := made(t, 0)
	g, m := s.grown(s.tree(1, some(0, 1)))
	g.Set(0, full(2))
	m.set(0, full(2))
	s.counts("the second one twice", g, m)
	g.Set(1, full(1))
	m.set(1, full(1))
	s.counts("changed for each other", g, m)
	if n, _ := g.Fresh(); n != 3 {
		t.Errorf("Fresh = %d", n)
	}
	g.Set(2, full(1))
	m.set(2, full(1))
	s.counts("the first one in the third place", g, m)
}

// A block that stands in several positions is told once, if one of them goes.
func TestGoneOfABlockThatStandsInSeveralPositions(t *testing.T) {
	s := made(t, 0)
	leaf := s.lay(full(1))
	root := s.lay(nodeBlock(t, api.Node{Level: 1, Kids: [4]api.Ref{leaf, leaf, {}, leaf}}))
	g, err := grow.New(s.c, api.Tree{Height: 1, Root: root})
	if err != api.OK {
		t.Fatal(err)
	}
	for _, place := range []int{0, 1, 3} {
		g.Set(place, full(20))
		if l, err := g.Gone(); !slices.Equal(l, []uint32{leaf.At, root.At}) || err != api.OK {
			t.Errorf("Gone = %v, %d", l, err)
		}
	}
	g.Fit(0)
	if l, err := g.Gone(); !slices.Equal(l, []uint32{leaf.At, root.At}) || err != api.OK {
		t.Errorf("Gone = %v, %d", l, err)
	}
}

// A digest of zeros is not none's.
func TestFreshBesideADigestOfZeros(t *testing.T) {
	s := made(t, 0)
	g, err := grow.New(s.c, api.Tree{Root: api.Ref{At: 5}})
	if err != api.OK {
		t.Fatal(err)
	}
	g.Set(0, full(1))
	if n, err := g.Fresh(); n != 1 || err != api.OK {
		t.Errorf("Fresh = %d, %d", n, err)
	}
	if l, err := g.Gone(); !slices.Equal(l, []uint32{5}) || err != api.OK {
		t.Errorf("Gone = %v, %d", l, err)
	}
}

// Asking changes nothing.
func TestFreshAndGoneChangeNothing(t *testing.T) {
	s := made(t, 3)
	g, m := s.grown(s.tree(2, every(2)))
	for _, c := range []change{set("", 3, full(40)), set("", 9, api.Block{}), fit("", 12), set("", 11, full(12)), fit("", 40)} {
		c.do(g, m)
		for range 3 {
			s.holds("asked again", g, m)
		}
	}
}

// R4
func TestGoneIsNewMemory(t *testing.T) {
	s := made(t, 100)
	g, m := s.grown(s.tree(2, every(2)))
	g.Set(3, full(40))
	m.set(3, full(40))
	first, _ := g.Gone()
	second, _ := g.Gone()
	spare := first[:cap(first)]
	for i := range spare {
		spare[i] = 7
	}
	if !slices.Equal(second, m.gone()) {
		t.Errorf("an answer hangs on another one: %v", second)
	}
	s.counts("behind that", g, m)
}

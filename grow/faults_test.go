package grow_test

import (
	"slices"
	"testing"

	"signet/api"
	"signet/grow"
)

// fails asks that Fresh, Gone and Lay answer an error and no other answer, and that take is not called.
func (s *stand) fails(what string, g *grow.Grow, want api.Errno) {
	s.t.Helper()
	if n, err := g.Fresh(); n != 0 || err != want {
		s.t.Errorf("%s: Fresh = %d, %d; want %d", what, n, err, want)
	}
	s.failsGone(what, g, want)
	c := counter{next: 300}
	if t, l, err := g.Lay(c.take); t != (api.Tree{}) || len(l) != 0 || err != want {
		s.t.Errorf("%s: Lay = %v, %d writes, %d; want %d", what, t, len(l), err, want)
	}
	if c.calls != 0 {
		s.t.Errorf("%s: take was called", what)
	}
}

func (s *stand) failsGone(what string, g *grow.Grow, want api.Errno) {
	s.t.Helper()
	if l, err := g.Gone(); len(l) != 0 || err != want {
		s.t.Errorf("%s: Gone = %v, %d; want %d", what, l, err, want)
	}
}

// cases is what is done with a tree of the height 2, and the nodes that must be read then, and those that must be read for Gone alone.
func cases() []struct {
	change
	needs, gone []at
} {
	l := []struct {
		change
		needs, gone []at
	}{
		{set("a leaf changed", 5, full(90)), []at{{2, 0}, {1, 1}}, nil},
		{set("a leaf set to what it is", 5, full(6)), []at{{2, 0}, {1, 1}}, nil},
		{set("a leaf set to zeros", 12, api.Block{}), []at{{2, 0}, {1, 3}}, nil},
		{fit("one leaf less", 15), []at{{2, 0}, {1, 3}}, nil},
		{fit("a node's leaves less", 12), []at{{2, 0}}, []at{{1, 3}}},
		{fit("three nodes' leaves less", 4), []at{{2, 0}}, []at{{1, 1}, {1, 2}, {1, 3}}},
		{fit("one leaf", 1), []at{{2, 0}, {1, 0}}, []at{{1, 1}, {1, 2}, {1, 3}}},
		{fit("no leaf", 0), nil, []at{{2, 0}, {1, 0}, {1, 1}, {1, 2}, {1, 3}}},
		{fit("a greater height", 17), nil, nil},
	}
	for i := range l {
		l[i].gone = append(l[i].gone, l[i].needs...)
	}
	return l
}

// Each block that was written over is told by those who need it, and no other answer is given; the rest is told as ever.
func TestBlocksWrittenOver(t *testing.T) {
	for _, c := range cases() {
		for number := uint32(1); number <= 21; number++ {
			s := made(t, 0)
			x := s.tree(2, every(2))
			g, m := s.grown(x)
			c.do(g, m)
			s.over(api.Ref{At: number}, full(9999))
			among := func(l []at) bool {
				return slices.ContainsFunc(l, func(p at) bool { return x.refs[p].At == number })
			}
			switch {
			case among(c.needs):
				s.fails(c.name, g, api.ErrTampered)
			case among(c.gone):
				s.failsGone(c.name, g, api.ErrTampered)
				s.lays(c.name, g, m)
			default:
				s.counts(c.name, g, m)
				s.lays(c.name, g, m)
			}
			// It is no fault of the grown tree: when the block is back, all is as ever.
			s.d.Plan([]api.Step{{Op: s.d.Ops(), Kind: api.StepAll, Back: 21}})
			s.holds(c.name+", laid back", g, m)
		}
	}
}

// Without power what has to be read, and is not kept, is told.
func TestWithoutPower(t *testing.T) {
	for _, c := range cases() {
		s := made(t, 100)
		g, m := s.grown(s.tree(2, every(2)))
		c.do(g, m)
		s.dies()
		if len(c.needs) > 0 {
			s.fails(c.name, g, api.ErrCut)
		} else if len(c.gone) > 0 {
			s.failsGone(c.name, g, api.ErrCut)
		} else {
			s.counts(c.name, g, m)
		}
		s.d.Revive()
		s.counts(c.name, g, m)
		// Now all that is needed is kept.
		s.dies()
		s.counts(c.name, g, m)
		s.lays(c.name, g, m)
	}
}

func TestLeafOfWhatWasWrittenOver(t *testing.T) {
	for _, room := range []int{0, 100} {
		for number := uint32(1); number <= 21; number++ {
			s := made(t, room)
			x := s.tree(2, every(2))
			g, m := s.grown(x)
			g.Set(3, full(70))
			m.set(3, full(70))
			g.Fit(15)
			m.fit(15)
			s.over(api.Ref{At: number}, full(9999))
			for place := range 16 {
				want, e := m.leaves[place], api.OK
				for level := range 3 {
					if place != 3 && place != 15 && x.refs[up(place, level)].At == number {
						want, e = api.Block{}, api.ErrTampered
					}
				}
				if b, err := g.Leaf(place); b != want || err != e {
					t.Errorf("Leaf(%d) = %v, %d; want %d", place, b, err, e)
				}
			}
		}
	}
}

func TestLeafWithoutPower(t *testing.T) {
	s := made(t, 0)
	g, _ := s.grown(s.tree(1, some(0, 1, 3)))
	g.Set(1, full(70))
	g.Fit(3)
	s.dies()
	for place, want := range []struct {
		b api.Block
		e api.Errno
	}{{api.Block{}, api.ErrCut}, {full(70), api.OK}, {api.Block{}, api.ErrCut}, {api.Block{}, api.OK}} {
		if b, err := g.Leaf(place); b != want.b || err != want.e {
			t.Errorf("Leaf(%d) = %v, %d; want %d", place, b, err, want.e)
		}
	}
}

// What lies where a node must, and is none, or one of another level.
func TestWhatIsNoNode(t *testing.T) {
	for _, odd := range []api.Block{full(5), {}, nodeBlock(t, api.Node{Level: 2}), nodeBlock(t, api.Node{Level: 3})} {
		s := made(t, 0)
		leaf := s.lay(full(1))
		bad := s.lay(odd)
		root := s.lay(nodeBlock(t, api.Node{Level: 2, Kids: [4]api.Ref{bad, {}, {}, s.lay(nodeBlock(t, api.Node{Level: 1, Kids: [4]api.Ref{leaf}}))}}))
		asks := func(what string, x api.Tree, place int) {
			t.Helper()
			g, err := grow.New(s.c, x)
			if err != api.OK {
				t.Fatal(err)
			}
			g.Set(place, full(40))
			s.fails(what, g, api.ErrNode)
		}
		asks("beneath the root", api.Tree{Height: 2, Root: root}, 2)
		asks("the root", api.Tree{Height: 1, Root: bad}, 2)
		for _, height := range []int{1, 3, 4, 5, 6} {
			asks("a root of another level", api.Tree{Height: height, Root: root}, 0)
		}
		// What goes as a whole is read for Gone alone.
		g, _ := grow.New(s.c, api.Tree{Height: 2, Root: root})
		g.Fit(0)
		s.failsGone("Fit", g, api.ErrNode)
		if n, err := g.Fresh(); n != 0 || err != api.OK {
			t.Errorf("Fresh = %d, %d", n, err)
		}
		// And what is not touched is not read.
		g, _ = grow.New(s.c, api.Tree{Height: 2, Root: root})
		g.Set(12, full(50))
		if n, err := g.Fresh(); n != 3 || err != api.OK {
			t.Errorf("Fresh = %d, %d", n, err)
		}
	}
}

// References that no disk has are tampered with.
func TestNumbersThatNoDiskHas(t *testing.T) {
	s := made(t, 0)
	for _, at := range []uint32{many, many + 1, 1<<32 - 1} {
		for height := 1; height <= 6; height++ {
			g, err := grow.New(s.c, api.Tree{Height: height, Root: api.Ref{At: at, Sum: api.Sum{1}}})
			if err != api.OK {
				t.Fatal(err)
			}
			s.quietly("a number that no disk has", func() {
				s.leavesFail(g, api.ErrTampered)
				g.Set(0, full(1))
				s.fails("a number that no disk has", g, api.ErrTampered)
			})
		}
	}
}

// leavesFail asks that a leaf can't be told.
func (s *stand) leavesFail(g *grow.Grow, want api.Errno) {
	s.t.Helper()
	if b, err := g.Leaf(0); b != (api.Block{}) || err != want {
		s.t.Errorf("Leaf = %v, %d; want %d", b, err, want)
	}
}

// A nil cache is one without power, and of none it tells zeros.
func TestNilCache(t *testing.T) {
	s := &stand{t: t}
	for height := 1; height <= 6; height++ {
		g, err := grow.New(nil, api.Tree{Height: height, Root: api.Ref{At: 3, Sum: api.Sum{7}}})
		if err != api.OK {
			t.Fatal(err)
		}
		if n, err := g.Fresh(); n != 0 || err != api.OK {
			t.Errorf("Fresh = %d, %d", n, err)
		}
		s.leavesFail(g, api.ErrCut)
		g.Set(0, full(1))
		s.fails("a nil cache", g, api.ErrCut)
		if err := g.Stand(api.Tree{Height: height}); err != api.OK {
			t.Errorf("Stand = %d", err)
		}
		g.Set(0, full(1))
		if n, err := g.Fresh(); n != height+1 || err != api.OK {
			t.Errorf("Fresh = %d, %d", n, err)
		}
		if b, err := g.Leaf(1); b != (api.Block{}) || err != api.OK {
			t.Errorf("Leaf = %v, %d", b, err)
		}
	}
}

// 10.6

func TestNilGrow(t *testing.T) {
	var g *grow.Grow
	if g.Height() != 0 || g.Standing() != (api.Tree{}) || len(g.Touched()) != 0 || g.Clone() != nil {
		t.Errorf("Height = %d, Standing = %v, Touched = %v, Clone = %v", g.Height(), g.Standing(), g.Touched(), g.Clone())
	}
	for _, n := range []int{-1, 0, 1, 4096, 4097} {
		if b, err := g.Leaf(n); b != (api.Block{}) || err != api.ErrArg {
			t.Errorf("Leaf(%d) = %v, %d; want ErrArg", n, b, err)
		}
		if err := g.Set(n, full(1)); err != api.ErrArg {
			t.Errorf("Set(%d) = %d; want ErrArg", n, err)
		}
		if err := g.Fit(n); err != api.ErrArg {
			t.Errorf("Fit(%d) = %d; want ErrArg", n, err)
		}
	}
	for _, x := range append(notRight(), api.Tree{}, api.Tree{Height: 6}) {
		if err := g.Stand(x); err != api.ErrArg {
			t.Errorf("Stand(%v) = %d; want ErrArg", x, err)
		}
	}
	s := &stand{t: t}
	s.fails("a nil Grow", g, api.ErrArg)
	if x, l, err := g.Lay(nil); x != (api.Tree{}) || len(l) != 0 || err != api.ErrArg {
		t.Errorf("Lay = %v, %d writes, %d; want ErrArg", x, len(l), err)
	}
}

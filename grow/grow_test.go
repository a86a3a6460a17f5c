package grow_test

import (
	"math"
	"slices"
	"testing"

	"signet/api"
	"signet/grow"
)

// 10.1

func TestNew(t *testing.T) {
	s := made(t, 10)
	for height := range 7 {
		for _, r := range []api.Ref{{}, {At: 1}, {At: 9, Sum: api.Sum{1}}, {At: math.MaxUint32, Sum: api.Sum{31: 255}}} {
			x := api.Tree{Height: height, Root: r}
			s.quietly("New", func() {
				g, err := grow.New(s.c, x)
				if g == nil || err != api.OK {
					t.Fatalf("New = %v, %d", g, err)
				}
				if g.Height() != height || g.Standing() != x || len(g.Touched()) != 0 {
					t.Errorf("Height = %d, Standing = %v, Touched = %v", g.Height(), g.Standing(), g.Touched())
				}
			})
		}
	}
}

// notRight is trees that are not.
func notRight() []api.Tree {
	var l []api.Tree
	for _, r := range []api.Ref{{}, {At: 1, Sum: api.Sum{1}}, {Sum: api.Sum{1}}} {
		for _, height := range []int{-1, 7, 8, -7, math.MinInt, math.MaxInt, 1 << 32, 256} {
			l = append(l, api.Tree{Height: height, Root: r})
		}
	}
	for _, sum := range []api.Sum{{1}, {31: 1}, {31: 128}} {
		for height := range 7 {
			l = append(l, api.Tree{Height: height, Root: api.Ref{Sum: sum}})
		}
	}
	return l
}

func TestNewOfWhatIsNotRight(t *testing.T) {
	s := made(t, 10)
	for _, x := range notRight() {
		if g, err := grow.New(s.c, x); g != nil || err != api.ErrArg {
			t.Errorf("New of %v = %v, %d; want ErrArg", x, g, err)
		}
		if g, err := grow.New(nil, x); g != nil || err != api.ErrArg {
			t.Errorf("New of no cache and %v = %v, %d; want ErrArg", x, g, err)
		}
	}
}

func TestLeafOfWhatStands(t *testing.T) {
	for height := range 5 {
		for _, leaves := range []map[int]api.Block{{}, some(0), some(capacities[height] - 1), some(0, capacities[height]/2), every(height)} {
			s := made(t, 0)
			x := s.tree(height, leaves)
			g, m := s.grown(x)
			s.leaves("as at first", g, m)
		}
	}
}

// A leaf that was set is told from memory, and setting reads nothing and digests nothing.
func TestSet(t *testing.T) {
	for height, many := range capacities {
		s := made(t, 0)
		g, m := s.grown(s.tree(height, some(0, many/3, many-1)))
		for _, place := range []int{0, many / 2, many - 1, many / 3} {
			for _, b := range []api.Block{full(5000), {}, full(place + 1), full(5001)} {
				s.quietly("Set", func() {
					if err := g.Set(place, b); err != api.OK {
						t.Errorf("Set(%d) = %d", place, err)
					}
					if got, err := g.Leaf(place); got != b || err != api.OK {
						t.Errorf("Leaf(%d) = %v, %d", place, got, err)
					}
				})
				m.set(place, b)
			}
		}
		if height < 5 {
			s.holds("behind Set", g, m)
		}
	}
}

func TestPlacesThatAreNotInTheTree(t *testing.T) {
	s := made(t, 0)
	g, _ := s.grown(s.tree(2, every(2)))
	for _, leaves := range []int{16, 0, 1, 2, 4, 5, 16, 17, 64, 65, 256, 257, 1024, 1025, 4096, 3} {
		if err := g.Fit(leaves); err != api.OK {
			t.Fatal(err)
		}
		many := capacities[g.Height()]
		for _, place := range []int{-1, many, -2, many + 1, -many, 4 * many, 5000, 1 << 32, math.MaxInt, math.MinInt} {
			s.quietly("a place that is not there", func() {
				if b, err := g.Leaf(place); b != (api.Block{}) || err != api.ErrPlace {
					t.Errorf("Leaf(%d) = %v, %d; want ErrPlace", place, b, err)
				}
				if err := g.Set(place, full(1)); err != api.ErrPlace {
					t.Errorf("Set(%d) = %d; want ErrPlace", place, err)
				}
			})
		}
		if len(g.Touched()) != 0 {
			t.Errorf("Touched = %v", g.Touched())
		}
		for _, place := range []int{0, many - 1} {
			if err := g.Set(place, full(place)); err != api.OK {
				t.Errorf("Set(%d) = %d", place, err)
			}
			if b, err := g.Leaf(place); b != full(place) || err != api.OK {
				t.Errorf("Leaf(%d) = %v, %d", place, b, err)
			}
		}
		g.Fit(0)
	}
}

// 10.2

func TestFitOfHeights(t *testing.T) {
	s := made(t, 0)
	for _, x := range []laid{none(0), none(3), none(6), s.tree(1, every(1)), s.tree(3, some(5, 63))} {
		for leaves := range 4097 {
			if leaves > 70 && leaves%63 > 3 {
				continue
			}
			g, m := s.grown(x)
			m.fit(leaves)
			s.quietly("Fit", func() {
				if err := g.Fit(leaves); err != api.OK || g.Height() != m.height {
					t.Errorf("Fit(%d) = %d, Height = %d; want %d", leaves, err, g.Height(), m.height)
				}
			})
		}
	}
}

func TestFitOfHeightsWrittenOut(t *testing.T) {
	s := made(t, 0)
	g, _ := s.grown(none(0))
	for _, c := range [][2]int{
		{0, 0}, {1, 0}, {2, 1}, {3, 1}, {4, 1}, {5, 2}, {15, 2}, {16, 2}, {17, 3}, {63, 3}, {64, 3}, {65, 4}, {255, 4}, {256, 4}, {257, 5},
		{1023, 5}, {1024, 5}, {1025, 6}, {4095, 6}, {4096, 6}, {1025, 6}, {1024, 5}, {17, 3}, {16, 2}, {1, 0},
	} {
		if err := g.Fit(c[0]); err != api.OK || g.Height() != c[1] {
			t.Errorf("Fit(%d) = %d, Height = %d; want %d", c[0], err, g.Height(), c[1])
		}
	}
}

func TestFitOfWrongNumbers(t *testing.T) {
	s := made(t, 0)
	g, m := s.grown(s.tree(2, every(2)))
	g.Set(3, full(99))
	m.set(3, full(99))
	for _, leaves := range []int{-1, 4097, -2, 4098, -4096, 5000, 16384, 1 << 32, math.MaxInt, math.MinInt} {
		if err := g.Fit(leaves); err != api.ErrArg {
			t.Errorf("Fit(%d) = %d; want ErrArg", leaves, err)
		}
		s.holds("Fit of a wrong number", g, m)
	}
}

// What was taken away stays zeros until it is set, whatever the height.
func TestFitSmallerAndGreater(t *testing.T) {
	for _, fits := range [][]int{
		{16}, {15}, {1}, {0}, {5, 16}, {4, 16}, {0, 16}, {1, 64}, {3, 5, 4, 16}, {17, 16}, {64, 7, 64}, {4, 2, 3, 64}, {16, 64, 256}, {12, 17, 9, 16}, {256, 16}, {8, 4096, 16},
	} {
		for _, places := range [][]int{{}, {0}, {3}, {4}, {9}, {15}, {0, 4, 5, 15}} {
			s := made(t, 0)
			g, m := s.grown(s.tree(2, every(2)))
			for _, leaves := range fits {
				g.Fit(leaves)
				m.fit(leaves)
				s.holds("Fit", g, m)
				for _, place := range places {
					if place < capacities[m.height] {
						g.Set(place, full(place*leaves))
						m.set(place, full(place*leaves))
					}
				}
				s.holds("Set behind Fit", g, m)
			}
		}
	}
}

func TestFitWrittenOut(t *testing.T) {
	s := made(t, 0)
	g, _ := s.grown(s.tree(1, every(1)))
	asks := func(place int, want api.Block) {
		t.Helper()
		if b, err := g.Leaf(place); b != want || err != api.OK {
			t.Errorf("Leaf(%d) = %v, %d", place, b, err)
		}
	}
	g.Set(3, full(70))
	g.Fit(2)
	asks(0, full(1))
	asks(1, full(2))
	asks(2, api.Block{})
	asks(3, api.Block{})
	g.Fit(4)
	asks(2, api.Block{})
	asks(3, api.Block{})
	g.Set(2, full(71))
	asks(2, full(71))
	g.Fit(3)
	asks(2, full(71))
	g.Fit(1)
	asks(0, full(1))
	g.Fit(16)
	for place := 1; place < 16; place++ {
		asks(place, api.Block{})
	}
	asks(0, full(1))
	g.Fit(0)
	asks(0, api.Block{})
}

// 10.5

func TestStandOfWhatIsNotRight(t *testing.T) {
	s := made(t, 0)
	g, m := s.grown(s.tree(1, every(1)))
	g.Fit(3)
	m.fit(3)
	g.Set(1, full(50))
	m.set(1, full(50))
	for _, x := range notRight() {
		if err := g.Stand(x); err != api.ErrArg {
			t.Errorf("Stand(%v) = %d; want ErrArg", x, err)
		}
	}
	s.holds("Stand of what is not right", g, m)
}

func TestStand(t *testing.T) {
	s := made(t, 0)
	trees := []laid{none(0), s.tree(0, some(0)), s.tree(1, every(1)), none(2), s.tree(2, some(3, 15)), s.tree(3, some(0, 17)), none(3)}
	for _, from := range trees {
		for _, to := range trees {
			g, m := s.grown(from)
			for _, place := range []int{0, capacities[from.Height] - 1} {
				g.Set(place, full(80))
			}
			g.Fit(2)
			g.Set(1, full(81))
			s.quietly("Stand", func() {
				if err := g.Stand(to.Tree); err != api.OK {
					t.Errorf("Stand = %d", err)
				}
			})
			m = stood(to)
			s.holds("Stand", g, m)
			s.quietly("Fresh and Gone behind Stand", func() {
				if n, err := g.Fresh(); n != 0 || err != api.OK {
					t.Errorf("Fresh = %d, %d", n, err)
				}
				if l, err := g.Gone(); len(l) != 0 || err != api.OK {
					t.Errorf("Gone = %v, %d", l, err)
				}
			})
			if len(g.Touched()) != 0 {
				t.Errorf("Touched = %v", g.Touched())
			}
		}
	}
}

func TestTouched(t *testing.T) {
	s := made(t, 0)
	g, _ := s.grown(s.tree(2, every(2)))
	asks := func(what string, want ...int) {
		t.Helper()
		if got := g.Touched(); !slices.Equal(got, want) {
			t.Errorf("%s: Touched = %v, want %v", what, got, want)
		}
	}
	asks("at first")
	for _, place := range []int{9, 0, 15, 9, 9, 3, 0, 11} {
		g.Set(place, full(place))
	}
	asks("set, some twice", 0, 3, 9, 11, 15)
	g.Set(3, full(4))
	g.Set(0, full(1))
	asks("set back", 0, 3, 9, 11, 15)
	g.Set(2, api.Block{})
	g.Set(7, full(8))
	asks("set to zeros, and to what it is", 0, 2, 3, 7, 9, 11, 15)
	g.Set(16, full(1))
	g.Set(-1, full(1))
	g.Fit(-1)
	g.Leaf(5)
	g.Fresh()
	asks("set nowhere", 0, 2, 3, 7, 9, 11, 15)
	g.Fit(11)
	asks("taken away", 0, 2, 3, 7, 9)
	g.Fit(12)
	g.Fit(64)
	asks("greater again", 0, 2, 3, 7, 9)
	g.Set(11, full(90))
	g.Set(63, full(91))
	asks("set again", 0, 2, 3, 7, 9, 11, 63)
	g.Fit(3)
	asks("smaller", 0, 2)
	g.Fit(0)
	asks("nothing left")
	g.Set(0, full(1))
	asks("set", 0)
	g.Stand(g.Standing())
	asks("behind Stand")
}

// A clone goes its own way, and so does the other one.
func TestClone(t *testing.T) {
	change := []func(g *grow.Grow, m *model){
		func(g *grow.Grow, m *model) { g.Set(0, full(60)); m.set(0, full(60)) },
		func(g *grow.Grow, m *model) { g.Set(9, full(61)); m.set(9, full(61)) },
		func(g *grow.Grow, m *model) { g.Set(5, api.Block{}); m.set(5, api.Block{}) },
		func(g *grow.Grow, m *model) { g.Fit(3); m.fit(3) },
		func(g *grow.Grow, m *model) { g.Fit(40); m.fit(40) },
		func(g *grow.Grow, m *model) { g.Stand(api.Tree{}); *m = *stood(none(0)) },
	}
	for _, one := range change {
		for _, other := range change {
			s := made(t, 100)
			g, m := s.grown(s.tree(2, some(0, 1, 5, 9, 10)))
			g.Set(2, full(62))
			m.set(2, full(62))
			h, k := g.Clone(), m.clone()
			s.holds("a clone", h, k)
			one(g, m)
			s.holds("the one, changed", g, m)
			s.holds("the clone, as it was", h, k)
			other(h, k)
			s.holds("the clone, changed", h, k)
			s.holds("the one, as it was", g, m)
		}
	}
}

// A clone stands on the same cache, not on another one.
func TestCloneStandsOnTheSameCache(t *testing.T) {
	s := made(t, 10)
	x := s.tree(1, every(1))
	g, _ := s.grown(x)
	h := g.Clone()
	g.Leaf(2)
	s.quietly("what is kept", func() {
		if b, err := h.Leaf(2); b != full(3) || err != api.OK {
			t.Errorf("Leaf = %v, %d", b, err)
		}
	})
	if hits := s.c.Counts().Hits; hits != 2 {
		t.Errorf("%d were found", hits)
	}
}

// R4
func TestTouchedIsNewMemory(t *testing.T) {
	s := made(t, 0)
	g, _ := s.grown(none(2))
	g.Set(3, full(1))
	g.Set(9, full(2))
	first, second := g.Touched(), g.Touched()
	spare := first[:cap(first)]
	for i := range spare {
		spare[i] = 7
	}
	if want := []int{3, 9}; !slices.Equal(second, want) || !slices.Equal(g.Touched(), want) {
		t.Errorf("an answer hangs on another one: %v, %v", second, g.Touched())
	}
}

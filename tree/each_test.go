package tree_test

import (
	"slices"
	"testing"

	"signet/api"
	"signet/tree"
)

// 9.4

// each is the positions that Each tells until so many were told, and its error.
func each(s *stand, t api.Tree, until int) ([]api.Pos, api.Errno) {
	var told []api.Pos
	err := tree.Each(s.c, t, func(p api.Pos) bool {
		told = append(told, p)
		return len(told) != until
	})
	return told, err
}

func TestEach(t *testing.T) {
	for _, room := range []int{0, 2, 4096} {
		for _, p := range shapes() {
			s := made(t, room)
			g := s.grow(p)
			if got, err := each(s, g.Tree, -1); !slices.Equal(got, g.positions()) || err != api.OK {
				t.Errorf("of the height %d: Each told %v, %d; want %v", p.height, got, err, g.positions())
			}
		}
	}
}

// The order, written out: a node's ahead of what hangs beneath it, earlier places first.
func TestOrderOfPositions(t *testing.T) {
	s := made(t, 100)
	g := s.grow(plan{height: 3, leaves: some(1, 3, 20, 63)})
	want := []at{{3, 0}, {2, 0}, {1, 0}, {0, 1}, {0, 3}, {2, 1}, {1, 5}, {0, 20}, {2, 3}, {1, 15}, {0, 63}}
	got, err := tree.All(s.c, g.Tree)
	if len(got) != len(want) || err != api.OK {
		t.Fatalf("All = %v, %d", got, err)
	}
	for i, p := range got {
		if p != (api.Pos{Level: want[i][0], Place: want[i][1], Ref: g.refs[want[i]]}) {
			t.Errorf("All at %d: %v, want %v", i, p, want[i])
		}
	}
}

// Until do answers false: that is no error, and nothing is told or read behind it.
func TestEachStops(t *testing.T) {
	for _, p := range shapes() {
		if p.height > 3 {
			continue
		}
		s := made(t, 0)
		g := s.grow(p)
		all := g.positions()
		for until := 1; until <= len(all); until++ {
			// A position is told ahead of being read.
			var want []uint32
			for _, x := range all[:until-1] {
				if x.Level > 0 {
					want = append(want, x.Ref.At)
				}
			}
			s.reads("Each", want, func() {
				if got, err := each(s, g.Tree, until); !slices.Equal(got, all[:until]) || err != api.OK {
					t.Errorf("Each until %d told %v, %d", until, got, err)
				}
			})
		}
	}
}

// Where it stops, what is wrong behind it is not met.
func TestEachStopsAheadOfAnError(t *testing.T) {
	s := made(t, 0)
	g := s.grow(plan{height: 2, leaves: every(2)})
	all := g.positions()
	s.spoil(g, at{1, 2})
	behind := slices.IndexFunc(all, func(p api.Pos) bool { return p.Level == 1 && p.Place == 2 }) + 1
	for until := range len(all) + 1 {
		got, err := each(s, g.Tree, until)
		if until > 0 && until <= behind {
			if !slices.Equal(got, all[:until]) || err != api.OK {
				t.Errorf("Each until %d told %v, %d", until, got, err)
			}
		} else if !slices.Equal(got, all[:behind]) || err != api.ErrTampered {
			t.Errorf("Each until %d told %v, %d", until, got, err)
		}
	}
	s.spoil(g, at{2, 0})
	if got, err := each(s, g.Tree, 1); !slices.Equal(got, all[:1]) || err != api.OK {
		t.Errorf("Each told %v, %d", got, err)
	}
	if got, err := each(s, g.Tree, 2); !slices.Equal(got, all[:1]) || err != api.ErrTampered {
		t.Errorf("Each told %v, %d", got, err)
	}
}

func TestEachOfNil(t *testing.T) {
	s := made(t, 0)
	g := s.grow(plan{height: 2, leaves: every(2)})
	s.reads("Each of nil", nil, func() {
		for _, x := range []api.Tree{g.Tree, {}, {Height: 6}, {Height: 7}, {Height: -1}, {Root: api.Ref{Sum: api.Sum{1}}}} {
			if err := tree.Each(s.c, x, nil); err != api.ErrArg {
				t.Errorf("Each of nil = %d", err)
			}
		}
	})
}

// On a tree that is not right nothing is done.
func TestEachOfNoTree(t *testing.T) {
	s := made(t, 0)
	for _, x := range notRight(api.Ref{At: 3, Sum: api.Sum{5}}) {
		if got, err := each(s, x, -1); len(got) != 0 || err != api.ErrArg {
			t.Errorf("Each told %v, %d", got, err)
		}
	}
}

// What is done for a position may ask for others meanwhile.
func TestEachWithinEach(t *testing.T) {
	s := made(t, 3)
	g := s.grow(plan{height: 2, leaves: some(0, 7, 9)})
	times := 0
	err := tree.Each(s.c, g.Tree, func(p api.Pos) bool {
		if r, err := tree.Ref(s.c, g.Tree, p.Level, p.Place); r != p.Ref || err != api.OK {
			t.Errorf("Ref = %v, %d; want %v", r, err, p.Ref)
		}
		inner, err := tree.All(s.c, g.Tree)
		if !slices.Equal(inner, g.positions()) || err != api.OK {
			t.Errorf("All = %v, %d", inner, err)
		}
		s.c.Clear()
		times++
		return true
	})
	if times != len(g.positions()) || err != api.OK {
		t.Errorf("Each told %d, %d", times, err)
	}
}

// Leaves are not read, and each node is.
func TestWhatIsGoneOverIsRead(t *testing.T) {
	for _, p := range shapes() {
		s := made(t, 0)
		g := s.grow(p)
		for _, call := range whole() {
			s.reads(call.name, g.nodes(), func() { s.answers(g.Tree, call) })
		}
	}
}

func TestAll(t *testing.T) {
	for _, p := range shapes() {
		s := made(t, 3)
		g := s.grow(p)
		if got, err := tree.All(s.c, g.Tree); !slices.Equal(got, g.positions()) || err != api.OK {
			t.Errorf("of the height %d: All = %v, %d; want %v", p.height, got, err, g.positions())
		}
	}
}

func TestAllOfFew(t *testing.T) {
	s := made(t, 3)
	for height := range 7 {
		if got, err := tree.All(s.c, api.Tree{Height: height}); len(got) != 0 || err != api.OK {
			t.Errorf("All of none = %v, %d", got, err)
		}
	}
	g := s.grow(plan{leaves: some(0)})
	if got, err := tree.All(s.c, g.Tree); len(got) != 1 || got[0] != (api.Pos{Ref: g.Root}) || err != api.OK {
		t.Errorf("All of a leaf = %v, %d", got, err)
	}
}

// 9.4, 9.5: Count is All's.
func TestCount(t *testing.T) {
	for _, p := range shapes() {
		s := made(t, 3)
		g := s.grow(p)
		all, _ := tree.All(s.c, g.Tree)
		leaves, nodes := 0, 0
		for _, x := range all {
			if x.Level == 0 {
				leaves++
			} else {
				nodes++
			}
		}
		if leaves != len(p.leaves) || nodes != len(g.nodes()) {
			t.Errorf("All has %d leaves and %d nodes", leaves, nodes)
		}
		if n, m, err := tree.Count(s.c, g.Tree); n != leaves || m != nodes || err != api.OK {
			t.Errorf("of the height %d: Count = %d, %d, %d; want %d, %d", p.height, n, m, err, leaves, nodes)
		}
	}
}

func TestCountOfKnownTrees(t *testing.T) {
	for _, c := range []struct {
		p             plan
		leaves, nodes int
	}{
		{plan{}, 0, 0}, {plan{height: 6}, 0, 0}, {plan{leaves: some(0)}, 1, 0}, {plan{height: 1, leaves: some(2)}, 1, 1},
		{plan{height: 1, leaves: every(1)}, 4, 1}, {plan{height: 2, leaves: some(0, 15)}, 2, 3}, {plan{height: 2, leaves: every(2)}, 16, 5},
		{plan{height: 6, leaves: some(4095)}, 1, 6}, {plan{height: 6, leaves: some(0, 4095)}, 2, 11}, {plan{height: 4, leaves: every(4)}, 256, 85},
	} {
		s := made(t, 3)
		g := s.grow(c.p)
		if n, m, err := tree.Count(s.c, g.Tree); n != c.leaves || m != c.nodes || err != api.OK {
			t.Errorf("Count = %d, %d, %d; want %d, %d", n, m, err, c.leaves, c.nodes)
		}
	}
}

func TestLast(t *testing.T) {
	for _, c := range []struct {
		p    plan
		want int
	}{
		{plan{}, -1}, {plan{height: 1}, -1}, {plan{height: 6}, -1}, {plan{leaves: some(0)}, 0},
		{plan{height: 1, leaves: some(0)}, 0}, {plan{height: 1, leaves: some(3)}, 3}, {plan{height: 1, leaves: some(0, 2)}, 2},
		{plan{height: 2, leaves: some(0)}, 0}, {plan{height: 2, leaves: some(7, 8, 11)}, 11}, {plan{height: 2, leaves: every(2)}, 15},
		{plan{height: 3, leaves: some(1, 17, 40)}, 40}, {plan{height: 6, leaves: some(0)}, 0}, {plan{height: 6, leaves: some(1, 4094)}, 4094}, {plan{height: 6, leaves: some(4095)}, 4095},
		// A leaf of zeros that lies somewhere is not none; a node of four nones has no leaf.
		{plan{leaves: map[int]api.Block{0: {}}}, 0}, {plan{height: 1, leaves: map[int]api.Block{1: full(1), 2: {}}}, 2},
		{plan{height: 1, odd: map[at]api.Block{{1, 0}: {'n', 'o', 'd', 'e', 1}}}, -1},
		{plan{height: 2, leaves: some(2), odd: map[at]api.Block{{1, 3}: {'n', 'o', 'd', 'e', 1}}}, 2},
	} {
		s := made(t, 3)
		g := s.grow(c.p)
		if got, err := tree.Last(s.c, g.Tree); got != c.want || err != api.OK {
			t.Errorf("of the height %d: Last = %d, %d; want %d", c.p.height, got, err, c.want)
		}
	}
}

// Earlier places are read first, so what is wrong there is told.
func TestLastBehindAnError(t *testing.T) {
	s := made(t, 0)
	g := s.grow(plan{height: 2, leaves: every(2), odd: map[at]api.Block{{1, 2}: full(1)}})
	s.spoil(g, at{1, 1})
	if got, err := tree.Last(s.c, g.Tree); got != 0 || err != api.ErrTampered {
		t.Errorf("Last = %d, %d", got, err)
	}
}

// With an error nothing, however much was gone over ahead of it.
func TestNothingBesideAnError(t *testing.T) {
	s := made(t, 0)
	g := s.grow(plan{height: 2, leaves: every(2)})
	s.spoil(g, at{1, 3})
	for _, call := range whole() {
		s.fails(g.Tree, call, api.ErrTampered)
	}
}

// R4
func TestAllIsNewMemory(t *testing.T) {
	s := made(t, 100)
	g := s.grow(plan{height: 2, leaves: every(2)})
	first, _ := tree.All(s.c, g.Tree)
	second, _ := tree.All(s.c, g.Tree)
	spare := first[:cap(first)]
	for i := range spare {
		spare[i] = api.Pos{Level: 9}
	}
	third, _ := tree.All(s.c, g.Tree)
	if !slices.Equal(second, g.positions()) || !slices.Equal(third, g.positions()) {
		t.Error("an answer hangs on another one")
	}
}

package grow_test

import (
	"slices"
	"testing"

	"signet/api"
	"signet/block"
	"signet/grow"
	"signet/tree"
)

// 10.4

func TestLayWrittenOut(t *testing.T) {
	s := made(t, 0)
	x := s.tree(2, some(0, 1, 6))
	g, _ := s.grown(x)
	g.Set(6, full(60))
	g.Set(15, full(61))
	g.Set(3, full(62))
	numbers := []uint32{400, 33, 90, 34, 401, 35, 7}
	calls := 0
	got, writes, err := g.Lay(func() (uint32, api.Errno) {
		calls++
		return numbers[calls-1], api.OK
	})
	ref := func(at uint32, b api.Block) api.Ref { return api.Ref{At: at, Sum: block.Sum(b)} }
	leaves := []api.Block{full(62), full(60), full(61)}
	nodes := []api.Block{
		nodeBlock(t, api.Node{Level: 1, Kids: [4]api.Ref{x.refs[at{0, 0}], x.refs[at{0, 1}], {}, ref(400, leaves[0])}}),
		nodeBlock(t, api.Node{Level: 1, Kids: [4]api.Ref{2: ref(33, leaves[1])}}),
		nodeBlock(t, api.Node{Level: 1, Kids: [4]api.Ref{3: ref(90, leaves[2])}}),
	}
	top := nodeBlock(t, api.Node{Level: 2, Kids: [4]api.Ref{ref(34, nodes[0]), ref(401, nodes[1]), {}, ref(35, nodes[2])}})
	var want []api.Write
	for i, b := range append(append(leaves, nodes...), top) {
		want = append(want, api.Write{At: numbers[i], Data: b})
	}
	if !slices.Equal(writes, want) || err != api.OK || calls != 7 {
		t.Errorf("Lay: %d writes, %d, %d calls", len(writes), err, calls)
	}
	if want := (api.Tree{Height: 2, Root: ref(7, top)}); got != want {
		t.Errorf("Lay = %v, want %v", got, want)
	}
}

// Earlier places come first within a level, and levels from 0 on, wherever they were set and in whatever order.
func TestLayOfEachHeight(t *testing.T) {
	for height, many := range capacities {
		s := made(t, 0)
		g, m := s.grown(none(height))
		for _, place := range []int{many - 1, many / 2, 0, many / 3, many / 4, many * 2 / 3, 1 % many} {
			g.Set(place, full(place))
			m.set(place, full(place))
			s.lays("Lay", g, m)
		}
		s.lays("again", g, m)
	}
}

func TestLayOfATreeWithoutLeaves(t *testing.T) {
	for height := range 7 {
		s := made(t, 0)
		for _, x := range []laid{none(height), s.tree(height, some(0, capacities[height]-1))} {
			g, _ := s.grown(x)
			never := func() (uint32, api.Errno) {
				t.Error("take was called")
				return 9, api.OK
			}
			g.Set(0, api.Block{})
			g.Set(capacities[height]-1, api.Block{})
			if got, l, err := g.Lay(never); got != (api.Tree{Height: height}) || len(l) != 0 || err != api.OK {
				t.Errorf("Lay = %v, %d writes, %d", got, len(l), err)
			}
			g.Fit(0)
			if got, l, err := g.Lay(never); got != (api.Tree{}) || len(l) != 0 || err != api.OK {
				t.Errorf("Lay = %v, %d writes, %d", got, len(l), err)
			}
			g.Fit(4096)
			if got, l, err := g.Lay(never); got != (api.Tree{Height: 6}) || len(l) != 0 || err != api.OK {
				t.Errorf("Lay = %v, %d writes, %d", got, len(l), err)
			}
		}
	}
}

// With nothing new the tree that is told is made of standing references alone, of another height, too.
func TestLayOfWhatIsKept(t *testing.T) {
	s := made(t, 0)
	x := s.tree(2, every(2))
	g, _ := s.grown(x)
	never := func() (uint32, api.Errno) {
		t.Error("take was called")
		return 9, api.OK
	}
	for _, c := range []struct{ leaves, height int }{{16, 2}, {4, 1}, {1, 0}} {
		g.Fit(c.leaves)
		want := api.Tree{Height: c.height, Root: x.refs[at{c.height, 0}]}
		if got, l, err := g.Lay(never); got != want || len(l) != 0 || err != api.OK {
			t.Errorf("Lay = %v, %d writes, %d; want %v", got, len(l), err, want)
		}
	}
}

func TestLayWithANilFunction(t *testing.T) {
	s := made(t, 0)
	x := s.tree(1, every(1))
	g, m := s.grown(x)
	asks := func() {
		t.Helper()
		s.quietly("Lay of nil", func() {
			if got, l, err := g.Lay(nil); got != (api.Tree{}) || len(l) != 0 || err != api.ErrArg {
				t.Errorf("Lay = %v, %d writes, %d; want ErrArg", got, len(l), err)
			}
		})
	}
	asks()
	g.Set(2, full(40))
	m.set(2, full(40))
	asks()
	s.holds("behind that", g, m)
	// It is told ahead of what is met in reading.
	s.over(x.Root, full(9))
	asks()
	s.dies()
	asks()
}

// The error of a call of take is told, nothing more is done, and the grown tree stays as it was.
func TestLayWithAnErrorOfTake(t *testing.T) {
	for fails := 1; fails <= 6; fails++ {
		for _, e := range []api.Errno{api.ErrNoSpace, api.ErrArg, api.ErrCut, -1, 999} {
			s := made(t, 100)
			g, m := s.grown(s.tree(2, every(2)))
			for _, place := range []int{2, 9, 10} {
				g.Set(place, full(50+place))
				m.set(place, full(50+place))
			}
			calls := 0
			got, l, err := g.Lay(func() (uint32, api.Errno) {
				calls++
				if calls == fails {
					return 77, e
				}
				return uint32(100 + calls), api.OK
			})
			if got != (api.Tree{}) || len(l) != 0 || err != e || calls != fails {
				t.Errorf("Lay = %v, %d writes, %d, %d calls; want %d, %d calls", got, len(l), err, calls, e, fails)
			}
			s.holds("behind that", g, m)
		}
	}
}

// Block 0 is never used: no reference may say it.
func TestLayWithTheNumberZero(t *testing.T) {
	for zero := 1; zero <= 3; zero++ {
		s := made(t, 100)
		g, m := s.grown(s.tree(1, every(1)))
		for _, place := range []int{2, 3} {
			g.Set(place, full(50+place))
			m.set(place, full(50+place))
		}
		calls := 0
		got, l, err := g.Lay(func() (uint32, api.Errno) {
			calls++
			if calls == zero {
				return 0, api.OK
			}
			return uint32(100 + calls), api.OK
		})
		if got != (api.Tree{}) || len(l) != 0 || err != api.ErrArg || calls != zero {
			t.Errorf("Lay = %v, %d writes, %d, %d calls; want ErrArg", got, len(l), err, calls)
		}
		s.holds("behind that", g, m)
	}
}

// Nothing is written, no block is read twice raw for what is kept, and behind it the log has all that is new.
func TestLayDigestsInTheLog(t *testing.T) {
	s := made(t, 100)
	g, m := s.grown(s.tree(2, every(2)))
	for place := range 5 {
		g.Set(3*place, full(70+place))
		m.set(3*place, full(70+place))
	}
	var writes []api.Write
	s.read(func() {
		c := counter{next: 200}
		_, writes, _ = g.Lay(c.take)
	})
	if _, want := m.lays(t, 200); !slices.Equal(writes, want) {
		t.Errorf("Lay: %d writes, want %d", len(writes), len(want))
	}
	for _, w := range writes {
		if !s.log.Has(api.TagBlock, block.Text(w.Data)) {
			t.Errorf("the block %d is not in the log", w.At)
		}
	}
	// Beside what is new only what was read was digested: the nodes above the leaves that were set.
	if most := len(writes) + len(m.needs()); s.log.Len() != most {
		t.Errorf("the log has %d entries, want %d", s.log.Len(), most)
	}
	image := s.d.Image()
	for at, b := range image {
		if uint32(at) >= s.next && b != (api.Block{}) {
			t.Errorf("the block %d was written", at)
		}
	}
	s.holds("behind that", g, m)
}

// A grown tree without a log is laid out likewise.
func TestLayWithoutALog(t *testing.T) {
	g, err := grow.New(nil, api.Tree{Height: 1})
	if err != api.OK {
		t.Fatal(err)
	}
	g.Set(2, full(3))
	c := counter{next: 8}
	got, l, err := g.Lay(c.take)
	top := nodeBlock(t, api.Node{Level: 1, Kids: [4]api.Ref{2: {At: 8, Sum: block.Sum(full(3))}}})
	if want := (api.Tree{Height: 1, Root: api.Ref{At: 9, Sum: block.Sum(top)}}); got != want || err != api.OK {
		t.Errorf("Lay = %v, %d; want %v", got, err, want)
	}
	if !slices.Equal(l, []api.Write{{At: 8, Data: full(3)}, {At: 9, Data: top}}) {
		t.Errorf("Lay: %d writes", len(l))
	}
}

// Numbers are told as they come, whatever they are: even several times one, and what no disk has.
func TestLayOfOddNumbers(t *testing.T) {
	s := made(t, 0)
	g, _ := s.grown(none(1))
	g.Set(0, full(1))
	g.Set(1, full(2))
	for _, at := range []uint32{1, many - 1, many, 1<<32 - 1} {
		got, l, err := g.Lay(func() (uint32, api.Errno) { return at, api.OK })
		if err != api.OK || got.Root.At != at || len(l) != 3 {
			t.Errorf("Lay = %v, %d writes, %d", got, len(l), err)
		}
		for _, w := range l {
			if w.At != at {
				t.Errorf("a write at %d, want %d", w.At, at)
			}
		}
	}
}

// A function that changes the grown tree meanwhile does not change what is laid out.
func TestLayWithAFunctionThatChangesTheTree(t *testing.T) {
	for _, c := range []change{
		set("Set", 0, full(90)), set("Set to zeros", 9, api.Block{}), fit("Fit smaller", 2), fit("Fit greater", 100), fit("Fit 0", 0),
		{"Stand", func(g *grow.Grow, m *model) { g.Stand(api.Tree{}); *m = *stood(none(0)) }},
	} {
		s := made(t, 100)
		g, m := s.grown(s.tree(2, every(2)))
		for _, place := range []int{0, 9} {
			g.Set(place, full(50+place))
			m.set(place, full(50+place))
		}
		want, writes := m.lays(t, 300)
		n := counter{next: 300}
		got, l, err := g.Lay(func() (uint32, api.Errno) {
			c.do(g, m)
			return n.take()
		})
		if got != want.Tree || !slices.Equal(l, writes) || err != api.OK {
			t.Errorf("%s: Lay = %v, %d writes, %d; want %v, %d writes", c.name, got, len(l), err, want.Tree, len(writes))
		}
		s.holds(c.name, g, m)
	}
}

// 10.7

// Behind laying out, writing and Stand the leaves are the grown tree's, and nothing is new.
func TestLayWriteAndStand(t *testing.T) {
	for height, many := range capacities {
		s := made(t, 0)
		g, m := s.grown(s.tree(height, some(0, many/2)))
		for _, place := range []int{many - 1, many / 2, many / 3, 0} {
			g.Set(place, full(900+place))
			m.set(place, full(900+place))
			fresh, _ := g.Fresh()
			before := s.next
			m = s.stands(g, m)
			if int(s.next-before) != fresh {
				t.Errorf("%d writes, %d were new", s.next-before, fresh)
			}
			s.counts("behind Stand", g, m)
			if n, err := g.Fresh(); n != 0 || err != api.OK {
				t.Errorf("Fresh = %d, %d", n, err)
			}
			if l, err := g.Gone(); len(l) != 0 || err != api.OK {
				t.Errorf("Gone = %v, %d", l, err)
			}
			s.reread(g, m)
		}
	}
}

// reread asks that a tree on the disk has the leaves of a model, as another reader sees it.
func (s *stand) reread(g *grow.Grow, m *model) {
	s.t.Helper()
	l, err := tree.Range(s.c, g.Standing(), 0, capacities[m.height])
	if err != api.OK {
		s.t.Fatal(err)
	}
	for place, b := range l {
		if b != m.leaves[place] {
			s.t.Errorf("the leaf %d is another one", place)
		}
	}
}

// A leaf that moves nowhere is kept while its neighbour changes, for ever: blocks that go are taken again.
func TestWritingOverOneLeafForEver(t *testing.T) {
	s := made(t, 10)
	g, m := s.grown(s.tree(3, some(0, 1, 2, 40)))
	free := []uint32{100, 101, 102, 103}
	for n := range 100 {
		g.Set(1, full(n))
		m.set(1, full(n))
		gone, err := g.Gone()
		if err != api.OK || len(gone) != 4 {
			t.Fatalf("Gone = %v, %d", gone, err)
		}
		x, writes, err := g.Lay(func() (uint32, api.Errno) {
			if len(free) == 0 {
				return 0, api.ErrNoSpace
			}
			at := free[0]
			free = free[1:]
			return at, api.OK
		})
		if err != api.OK || len(writes) != 4 {
			t.Fatalf("Lay: %d writes, %d", len(writes), err)
		}
		for _, w := range writes {
			s.c.Put(w.At, w.Data)
		}
		free = append(free, gone...)
		if err := g.Stand(x); err != api.OK {
			t.Fatal(err)
		}
		s.leaves("behind Stand", g, m)
	}
}

// R4
func TestLayIsNewMemory(t *testing.T) {
	s := made(t, 100)
	g, m := s.grown(s.tree(1, every(1)))
	for place := range 4 {
		g.Set(place, full(40+place))
		m.set(place, full(40+place))
	}
	_, want := m.lays(t, 300)
	a, b := counter{next: 300}, counter{next: 300}
	_, first, _ := g.Lay(a.take)
	_, second, _ := g.Lay(b.take)
	spare := first[:cap(first)]
	for i := range spare {
		spare[i] = api.Write{At: 9}
	}
	if !slices.Equal(second, want) {
		t.Error("an answer hangs on another one")
	}
	s.holds("behind that", g, m)
}

package grow_test

import (
	"maps"
	"math/rand"
	"slices"
	"testing"

	"signet/api"
	"signet/block"
	"signet/grow"
)

// model is what a grown tree must be, by the chapter's words: all leaves that are not zeros, those that were set, and those of the standing tree that were taken away.
type model struct {
	old     laid
	height  int
	leaves  map[int]api.Block
	touched map[int]bool
	cut     int
}

// stood is a grown tree as at first.
func stood(x laid) *model {
	m := &model{old: x, height: x.Height, leaves: map[int]api.Block{}, touched: map[int]bool{}, cut: capacities[x.Height]}
	for place, b := range x.leaves {
		m.set(place, b)
	}
	m.touched = map[int]bool{}
	return m
}

func (m *model) set(place int, b api.Block) {
	m.touched[place] = true
	m.leaves[place] = b
	if b == (api.Block{}) {
		delete(m.leaves, place)
	}
}

func (m *model) fit(leaves int) {
	m.height = 0
	for capacities[m.height] < leaves {
		m.height++
	}
	behind := func(place int, _ api.Block) bool { return place >= leaves }
	maps.DeleteFunc(m.leaves, behind)
	maps.DeleteFunc(m.touched, func(place int, _ bool) bool { return place >= leaves })
	m.cut = min(m.cut, leaves)
}

func (m *model) clone() *model {
	c := *m
	c.leaves, c.touched = maps.Clone(m.leaves), maps.Clone(m.touched)
	return &c
}

// inside tells whether the grown tree has a position of that level and place at all.
func (m *model) inside(p at) bool {
	return p[0] <= m.height && p[1] < capacities[m.height-p[0]]
}

func (m *model) there(p at) bool {
	return m.inside(p) && hasLeaf(m.leaves, p)
}

// fresh tells whether a position is new.
func (m *model) fresh(p at) bool {
	if !m.there(p) {
		return false
	}
	if _, is := m.old.refs[p]; !is {
		return true
	}
	if p[0] == 0 {
		return m.leaves[p[1]] != m.old.leaves[p[1]]
	}
	for i := range 4 {
		_, was := m.old.refs[p.kid(i)]
		if m.there(p.kid(i)) != was || m.fresh(p.kid(i)) {
			return true
		}
	}
	return false
}

// news is all positions that are new, in the order in which they are laid out.
func (m *model) news() []at {
	near := map[at]bool{}
	for place := range m.leaves {
		for level := range m.height + 1 {
			near[up(place, level)] = true
		}
	}
	var l []at
	for p := range near {
		if m.fresh(p) {
			l = append(l, p)
		}
	}
	slices.SortFunc(l, func(a, b at) int { return slices.Compare(a[:], b[:]) })
	return l
}

// gone is the blocks of the standing tree that the grown one does not keep.
func (m *model) gone() []uint32 {
	var l []uint32
	for p, r := range m.old.refs {
		if !m.there(p) || m.fresh(p) {
			l = append(l, r.At)
		}
	}
	slices.Sort(l)
	return l
}

// lays is the tree and the writes of laying out, with numbers from one on.
func (m *model) lays(t *testing.T, next uint32) (laid, []api.Write) {
	t.Helper()
	x := laid{leaves: maps.Clone(m.leaves), refs: map[at]api.Ref{}}
	for p, r := range m.old.refs {
		if m.there(p) && !m.fresh(p) {
			x.refs[p] = r
		}
	}
	var writes []api.Write
	for _, p := range m.news() {
		b := m.leaves[p[1]]
		if p[0] > 0 {
			n := api.Node{Level: p[0]}
			for i := range 4 {
				n.Kids[i] = x.refs[p.kid(i)]
			}
			b = nodeBlock(t, n)
		}
		x.refs[p] = api.Ref{At: next, Sum: block.Sum(b)}
		writes = append(writes, api.Write{At: next, Data: b})
		next++
	}
	x.Tree = api.Tree{Height: m.height, Root: x.refs[at{m.height, 0}]}
	return x, writes
}

// needs is the standing nodes that must be read to know what is new: those beneath which a leaf was set, or of which a part was taken away.
func (m *model) needs() []uint32 {
	var l []uint32
	for p, r := range m.old.refs {
		if p[0] > 0 && (m.setBeneath(p) || m.cutWithin(p)) {
			l = append(l, r.At)
		}
	}
	slices.Sort(l)
	return l
}

// setBeneath tells whether a leaf beneath a position was set.
func (m *model) setBeneath(p at) bool {
	for place := range m.touched {
		if up(place, p[0]) == p {
			return true
		}
	}
	return false
}

// cutWithin tells whether some of the leaves beneath a position, and not all, were taken away.
func (m *model) cutWithin(p at) bool {
	first := p[1] * capacities[p[0]]
	return first < m.cut && m.cut < first+capacities[p[0]]
}

// needsGone is the standing nodes that must be read to know what goes: those, and all that go as a whole.
func (m *model) needsGone() []uint32 {
	l := m.needs()
	for p, r := range m.old.refs {
		if p[0] > 0 && p[1]*capacities[p[0]] >= m.cut && !m.setBeneath(p) {
			l = append(l, r.At)
		}
	}
	slices.Sort(l)
	return l
}

// holds asks that a grown tree is what it must be.
func (s *stand) holds(what string, g *grow.Grow, m *model) {
	s.t.Helper()
	if g.Height() != m.height || g.Standing() != m.old.Tree {
		s.t.Errorf("%s: Height = %d, Standing = %v; want %d, %v", what, g.Height(), g.Standing(), m.height, m.old.Tree)
	}
	if want := slices.Sorted(maps.Keys(m.touched)); !slices.Equal(g.Touched(), want) {
		s.t.Errorf("%s: Touched = %v, want %v", what, g.Touched(), want)
	}
	s.leaves(what, g, m)
	s.counts(what, g, m)
	s.lays(what, g, m)
}

// leaves asks for all leaves of a grown tree.
func (s *stand) leaves(what string, g *grow.Grow, m *model) {
	s.t.Helper()
	for place := range capacities[m.height] {
		if b, err := g.Leaf(place); b != m.leaves[place] || err != api.OK {
			s.t.Fatalf("%s: Leaf(%d) = %v, %d", what, place, b, err)
		}
	}
	for _, place := range []int{-1, capacities[m.height]} {
		if b, err := g.Leaf(place); b != (api.Block{}) || err != api.ErrPlace {
			s.t.Errorf("%s: Leaf(%d) = %v, %d; want ErrPlace", what, place, b, err)
		}
	}
}

// counts asks what is new and what goes.
func (s *stand) counts(what string, g *grow.Grow, m *model) {
	s.t.Helper()
	if n, err := g.Fresh(); n != len(m.news()) || err != api.OK {
		s.t.Errorf("%s: Fresh = %d, %d; want %d", what, n, err, len(m.news()))
	}
	if l, err := g.Gone(); !slices.Equal(l, m.gone()) || err != api.OK {
		s.t.Errorf("%s: Gone = %v, %d; want %v", what, l, err, m.gone())
	}
}

// lays asks how it is laid out.
func (s *stand) lays(what string, g *grow.Grow, m *model) {
	s.t.Helper()
	want, writes := m.lays(s.t, 300)
	c := counter{next: 300}
	got, l, err := g.Lay(c.take)
	if got != want.Tree || !slices.Equal(l, writes) || err != api.OK {
		s.t.Errorf("%s: Lay = %v, %d writes, %d; want %v, %d writes", what, got, len(l), err, want.Tree, len(writes))
	}
	if c.calls != len(writes) {
		s.t.Errorf("%s: take was called %d times for %d writes", what, c.calls, len(writes))
	}
}

// stands lays a grown tree out, writes it, and lets it stand.
func (s *stand) stands(g *grow.Grow, m *model) *model {
	s.t.Helper()
	x, _ := m.lays(s.t, s.next)
	c := counter{next: s.next}
	t, writes, err := g.Lay(c.take)
	if t != x.Tree || err != api.OK {
		s.t.Fatalf("Lay = %v, %d; want %v", t, err, x.Tree)
	}
	for _, w := range writes {
		if _, err := s.c.Put(w.At, w.Data); err != api.OK {
			s.t.Fatal(err)
		}
	}
	s.next = c.next
	if err := g.Stand(t); err != api.OK {
		s.t.Fatalf("Stand = %d", err)
	}
	return stood(x)
}

// run is a grown tree on which something is drawn, and what it must be.
type run struct {
	*stand
	r *rand.Rand
	g *grow.Grow
	m *model
}

// drawn is a run on a tree that was drawn.
func drawn(t *testing.T, seed int64, room int) *run {
	t.Helper()
	x := &run{stand: made(t, room), r: rand.New(rand.NewSource(seed))}
	height := x.r.Intn(4)
	leaves := map[int]api.Block{}
	for range x.r.Intn(2 * capacities[height]) {
		leaves[x.r.Intn(capacities[height])] = full(x.r.Intn(3))
	}
	x.g, x.m = x.grown(x.tree(height, leaves))
	return x
}

// leaf is a leaf's bytes: zeros, what the standing tree has there, what it has elsewhere, or others.
func (x *run) leaf(place int) api.Block {
	switch x.r.Intn(6) {
	case 0:
		return api.Block{}
	case 1, 2:
		return x.m.old.leaves[place]
	}
	return full(x.r.Intn(4))
}

// one does something that was drawn with both, and tells what.
func (x *run) one() string {
	switch x.r.Intn(12) {
	case 0:
		leaves := x.r.Intn(70)
		x.m.fit(leaves)
		if err := x.g.Fit(leaves); err != api.OK {
			x.t.Fatalf("Fit(%d) = %d", leaves, err)
		}
		return "Fit"
	case 1:
		// The one that goes on is as the one that it was made of, which goes another way.
		other := x.g.Clone()
		x.g.Fit(x.r.Intn(9))
		x.g.Set(0, full(77))
		x.g = other
		return "Clone"
	case 2:
		if err := x.g.Stand(x.m.old.Tree); err != api.OK {
			x.t.Fatalf("Stand = %d", err)
		}
		x.m = stood(x.m.old)
		return "Stand"
	case 3:
		x.wrong()
		return "something wrong"
	}
	place := x.r.Intn(capacities[x.m.height])
	b := x.leaf(place)
	x.m.set(place, b)
	if err := x.g.Set(place, b); err != api.OK {
		x.t.Fatalf("Set(%d) = %d", place, err)
	}
	return "Set"
}

// wrong does things that change nothing.
func (x *run) wrong() {
	x.t.Helper()
	if err := x.g.Set(capacities[x.m.height], full(1)); err != api.ErrPlace {
		x.t.Errorf("Set = %d", err)
	}
	if err := x.g.Fit(-1); err != api.ErrArg {
		x.t.Errorf("Fit = %d", err)
	}
	if err := x.g.Stand(api.Tree{Height: 7}); err != api.ErrArg {
		x.t.Errorf("Stand = %d", err)
	}
}

func TestRuns(t *testing.T) {
	for seed := range int64(150) {
		x := drawn(t, seed, []int{0, 1, 7, 500}[seed%4])
		for range 12 {
			for range 1 + x.r.Intn(3) {
				x.one()
			}
			x.holds("a run", x.g, x.m)
			if x.r.Intn(4) == 0 && x.next < many/2 {
				x.m = x.stands(x.g, x.m)
				x.holds("behind Stand", x.g, x.m)
			}
			if t.Failed() {
				t.Fatalf("seed %d", seed)
			}
		}
	}
}

// answer is what a call answered, as far as it is asked here, and its error.
type answer struct {
	err    api.Errno
	n      int
	tree   api.Tree
	block  api.Block
	gone   []uint32
	writes []api.Write
}

func (a answer) is(b answer) bool {
	return a.err == b.err && a.n == b.n && a.tree == b.tree && a.block == b.block && slices.Equal(a.gone, b.gone) && slices.Equal(a.writes, b.writes)
}

// asks does a call that reads, and tells what it answered, what it must answer if all is as it was, and whether nodes that it needs are among those that were spoilt.
func (x *run) asks() (string, answer, answer, func(uint32) bool) {
	var got, want answer
	among := func(l []uint32) func(uint32) bool {
		return func(n uint32) bool { return slices.Contains(l, n) }
	}
	switch x.r.Intn(4) {
	case 0:
		got.n, got.err = x.g.Fresh()
		want.n = len(x.m.news())
		return "Fresh", got, want, among(x.m.needs())
	case 1:
		got.gone, got.err = x.g.Gone()
		want.gone = x.m.gone()
		return "Gone", got, want, among(x.m.needsGone())
	case 2:
		c := counter{next: 300}
		got.tree, got.writes, got.err = x.g.Lay(c.take)
		tree, writes := x.m.lays(x.t, 300)
		want.tree, want.writes = tree.Tree, writes
		return "Lay", got, want, among(x.m.needs())
	}
	place := x.r.Intn(capacities[x.m.height])
	got.block, got.err = x.g.Leaf(place)
	want.block = x.m.leaves[place]
	return "Leaf", got, want, among(x.m.way(place))
}

// way is the blocks that are read for a leaf.
func (m *model) way(place int) []uint32 {
	var l []uint32
	for level := range m.old.Height + 1 {
		if r, is := m.old.refs[up(place, level)]; is && !m.touched[place] && place < m.cut {
			l = append(l, r.At)
		}
	}
	return l
}

// Blocks of the standing tree that were written over are told by those calls that need them, and by no others.
func TestRunsWithBlocksWrittenOver(t *testing.T) {
	right, tampered := 0, 0
	for seed := range int64(300) {
		x := drawn(t, seed, 0)
		for range 1 + x.r.Intn(4) {
			x.one()
		}
		spoilt := map[uint32]bool{}
		for range 1 + x.r.Intn(3) {
			at := uint32(1 + x.r.Intn(int(x.next)))
			spoilt[at] = true
			x.over(api.Ref{At: at}, full(9999))
		}
		for range 8 {
			name, got, want, needs := x.asks()
			bad := false
			for at := range spoilt {
				bad = bad || needs(at)
			}
			if bad {
				want = answer{err: api.ErrTampered}
				tampered++
			} else {
				right++
			}
			if !got.is(want) {
				t.Fatalf("seed %d: %s: %d, %d; want %d, %d", seed, name, got.n, got.err, want.n, want.err)
			}
		}
	}
	if right < 300 || tampered < 300 {
		t.Errorf("%d were right, %d tampered", right, tampered)
	}
}

// Whatever an adversary does meanwhile, an answer is the right one, or ErrTampered, and then nothing is changed.
func TestRunsWithAnAdversary(t *testing.T) {
	right, tampered := 0, 0
	for seed := range int64(150) {
		x := drawn(t, seed, []int{0, 1, 7, 500}[seed%4])
		var steps []api.Step
		for range 30 {
			op := x.d.Ops() + x.r.Intn(300)
			steps = append(steps, api.Step{Op: op, Kind: 1 + x.r.Intn(3), At: x.r.Intn(int(x.next)), Data: full(x.r.Intn(4)), Back: x.r.Intn(op + 1)})
		}
		x.d.Plan(steps)
		for range 25 {
			x.one()
			name, got, want, _ := x.asks()
			switch {
			case got.is(want):
				right++
			case got.is(answer{err: api.ErrTampered}):
				tampered++
			default:
				t.Fatalf("seed %d: %s: %d, %d; want %d", seed, name, got.n, got.err, want.n)
			}
		}
	}
	if right < 300 || tampered < 300 {
		t.Errorf("%d were right, %d tampered", right, tampered)
	}
}

package inodes_test

import (
	"fmt"
	"maps"
	"math"
	"math/rand"
	"slices"
	"testing"

	"signet/api"
	"signet/inodes"
)

// thing is an inode by the chapter's words: what it is, and those of its leaves that are not zeros.
type thing struct {
	api.Info
	leaves map[int]api.Block
}

// form is the inodes in use, by their numbers.
type form map[int]thing

func (f form) clone() form {
	c := form{}
	for n, x := range f {
		x.leaves = maps.Clone(x.leaves)
		c[n] = x
	}
	return c
}

func (f form) high() int {
	high := 0
	for n := range f {
		high = max(high, n)
	}
	return high
}

// model is what inodes must be: the committed form, where its blocks lie, and the working form.
type model struct {
	old, now form
	refs     map[at]api.Ref
}

// fresh is inodes without any.
func fresh() *model {
	return &model{old: form{}, now: form{}}
}

func (m *model) clone() *model {
	return &model{m.old, m.now.clone(), m.refs}
}

// swung is the model when what was laid out is committed.
func (m *model) swung(refs map[at]api.Ref) *model {
	return &model{m.now.clone(), m.now.clone(), refs}
}

// put makes a leaf what it is.
func (x thing) put(place int, b api.Block) {
	bytes := min(256, x.Size-256*place)
	delete(x.leaves, place)
	if short := upTo(b, bytes); short != (api.Block{}) {
		x.leaves[place] = short
	}
}

// find is an inode, and what is told if there is none.
func (m *model) find(n int) (thing, api.Errno) {
	if n < 1 || n > 4096 {
		return thing{}, api.ErrNumber
	}
	x, is := m.now[n]
	if !is {
		return thing{}, api.ErrNone
	}
	return x, api.OK
}

func (m *model) mk(kind int, stamp uint64) (int, api.Errno) {
	if kind != 1 && kind != 2 {
		return 0, api.ErrArg
	}
	for n := 1; n <= 4096; n++ {
		if _, is := m.now[n]; !is {
			m.now[n] = thing{api.Info{Number: n, Kind: kind, Links: 1, Stamp: stamp}, map[int]api.Block{}}
			return n, api.OK
		}
	}
	return 0, api.ErrInodes
}

func (m *model) links(n, by int, stamp uint64) api.Errno {
	x, err := m.find(n)
	if err != api.OK {
		return err
	}
	if by < -1000 || by > 1000 || x.Links+by < 1 || x.Links+by > 1000 || x.Kind == 2 && by != 0 {
		return api.ErrLinks
	}
	x.Links += by
	x.Stamp = stamp
	m.now[n] = x
	return api.OK
}

func (m *model) resize(n, size int, stamp uint64) api.Errno {
	x, err := m.find(n)
	if err == api.ErrNumber {
		return err
	}
	if size < 0 || size > 1048576 {
		return api.ErrArg
	}
	if err != api.OK {
		return err
	}
	if x.Kind == 2 && size%64 != 0 {
		return api.ErrArg
	}
	x.Size, x.Stamp = size, stamp
	for place, b := range maps.Clone(x.leaves) {
		if 256*place >= size {
			delete(x.leaves, place)
		} else {
			x.put(place, b)
		}
	}
	m.now[n] = x
	return api.OK
}

func (m *model) drop(n int) api.Errno {
	_, err := m.find(n)
	if err == api.OK {
		delete(m.now, n)
	}
	return err
}

func (m *model) leaf(n, place int) (api.Block, api.Errno) {
	x, err := m.find(n)
	if err != api.ErrNumber && (place < 0 || place > 4095) {
		return api.Block{}, api.ErrPlace
	}
	return x.leaves[place], err
}

func (m *model) set(n, place int, b api.Block, stamp uint64) api.Errno {
	x, err := m.find(n)
	if err == api.ErrNumber {
		return err
	}
	if place < 0 || place > 4095 {
		return api.ErrPlace
	}
	if err != api.OK {
		return err
	}
	if 256*place >= x.Size {
		return api.ErrPlace
	}
	x.put(place, b)
	x.Stamp = stamp
	m.now[n] = x
	return api.OK
}

func (m *model) touch(n int, stamp uint64) api.Errno {
	x, err := m.find(n)
	if err == api.OK {
		x.Stamp = stamp
		m.now[n] = x
	}
	return err
}

// contents numbers what stands at positions: like things have like numbers, and nothing has 0.
type contents map[string]int

func (c contents) of(s string) int {
	if _, is := c[s]; !is {
		c[s] = len(c) + 1
	}
	return c[s]
}

// levels is how high a tree must be for so many things, with so many in a leaf.
func levels(many, inLeaf int) int {
	height := 0
	for ; inLeaf < many; inLeaf *= 4 {
		height++
	}
	return height
}

// tree numbers the positions of a tree with these leaves, and tells its root's.
func (c contents) tree(all map[at]int, number, height int, leaves map[int]int) int {
	level := leaves
	for l := range height + 1 {
		above := map[int][4]int{}
		for place, n := range level {
			all[at{number, l, place}] = n
			kids := above[place/4]
			kids[place%4] = n
			above[place/4] = kids
		}
		if l < height {
			level = map[int]int{}
			for place, kids := range above {
				level[place] = c.of(fmt.Sprint("node ", l+1, kids))
			}
		}
	}
	return level[0]
}

// positions numbers what stands at all positions of a form.
func (c contents) positions(f form) map[at]int {
	all := map[at]int{}
	fours := map[int][4]string{}
	for n, x := range f {
		leaves := map[int]int{}
		for place, b := range x.leaves {
			leaves[place] = c.of(string(b[:]))
		}
		root := c.tree(all, n, levels(x.Size, 256), leaves)
		four := fours[(n-1)/4]
		four[(n-1)%4] = fmt.Sprint(x.Info, root)
		fours[(n-1)/4] = four
	}
	leaves := map[int]int{}
	for place, four := range fours {
		leaves[place] = c.of(fmt.Sprintf("table %q", four))
	}
	c.tree(all, 0, levels(f.high(), 4), leaves)
	return all
}

// counts is how many positions are new, and the blocks that are let go, rising.
func (m *model) counts() (int, []uint32) {
	c := contents{}
	old, now := c.positions(m.old), c.positions(m.now)
	news := 0
	for p, n := range now {
		if old[p] != n {
			news++
		}
	}
	var let []uint32
	for p, n := range old {
		if now[p] != n {
			let = append(let, m.refs[p].At)
		}
	}
	slices.Sort(let)
	return news, let
}

// holds asks that inodes are what they must be.
func (s *stand) holds(what string, x *inodes.Inodes, m *model) {
	s.t.Helper()
	s.all(x, slices.Sorted(maps.Keys(m.now))...)
	high := max(m.now.high(), m.old.high())
	for _, n := range append([]int{-1, 0, high + 1, high + 2, high + 5, 4096, 4097}, slices.Sorted(maps.Keys(m.now))...) {
		want, e := m.find(n)
		if i, err := x.Get(n); i != want.Info || err != e {
			s.t.Errorf("%s: Get(%d) = %v, %d; want %v, %d", what, n, i, err, want.Info, e)
		}
		last := (want.Size + 255) / 256
		for _, place := range append(slices.Sorted(maps.Keys(want.leaves)), -1, 0, 1, last-1, last, last+1, last+3, 4095, 4096) {
			want, e := m.leaf(n, place)
			if b, err := x.Leaf(n, place); b != want || err != e {
				s.t.Errorf("%s: Leaf(%d, %d) = %v, %d; want %v, %d", what, n, place, brief(b), err, brief(want), e)
			}
		}
	}
	news, _ := m.counts()
	s.news(what, x, news)
}

// lays asks how inodes are laid out, and tells it.
func (s *stand) lays(what string, x *inodes.Inodes, m *model) api.Out {
	s.t.Helper()
	c := counter{next: s.next}
	out, err := x.Out(c.take)
	if err != api.OK {
		s.t.Fatalf("%s: Out: %d", what, err)
	}
	news, let := m.counts()
	if c.calls != news || len(out.Writes) != news {
		s.t.Errorf("%s: take was called %d times for %d writes; want %d", what, c.calls, len(out.Writes), news)
	}
	if !slices.Equal(out.Let, let) {
		s.t.Errorf("%s: Let = %v; want %v", what, out.Let, let)
	}
	if out.High != m.now.high() || out.Table.Height != levels(out.High, 4) {
		s.t.Errorf("%s: High = %d, Height = %d; want %d", what, out.High, out.Table.Height, m.now.high())
	}
	s.ordered(what, out, s.next)
	return out
}

// commits lays inodes out, writes that, and opens it.
func (s *stand) commits(what string, x *inodes.Inodes, m *model) (*inodes.Inodes, *model) {
	s.t.Helper()
	out := s.lays(what, x, m)
	s.next += uint32(len(out.Writes))
	s.write(out)
	return s.open(out.Table, out.High), m.swung(s.refs(out.Table))
}

// run is inodes on which something is drawn, and what they must be.
type run struct {
	*stand
	r *rand.Rand
	x *inodes.Inodes
	m *model
}

// drawn is a run on inodes without any.
func drawn(t *testing.T, seed int64, room int) *run {
	t.Helper()
	s := made(t, 4096, room)
	return &run{s, rand.New(rand.NewSource(seed)), s.empty(), fresh()}
}

func among[T any](x *run, l ...T) T {
	return l[x.r.Intn(len(l))]
}

// number is an inode's number: most often one in use.
func (x *run) number() int {
	if l := slices.Sorted(maps.Keys(x.m.now)); len(l) > 0 && x.r.Intn(8) > 0 {
		return among(x, l...)
	}
	return among(x, -1, 0, 1, 2, 3, 4, 5, 8, 9, 17, 4096, 4097, math.MinInt, math.MaxInt)
}

func (x *run) size() int {
	if x.r.Intn(9) == 0 {
		return among(x, -1, 5000, 16384, 16385, 65537, 262145, 1048575, 1048576, 1048577, math.MinInt, math.MaxInt)
	}
	return among(x, 0, 0, 1, 63, 64, 128, 255, 256, 257, 300, 320, 511, 512, 513, 640, 1000, 1024, 1025, 1088, 1280, 2048, 4096)
}

// place is a leaf's place: most often one that the inode has.
func (x *run) place(n int) int {
	if last := (x.m.now[n].Size + 255) / 256; last > 0 && x.r.Intn(8) > 0 {
		return x.r.Intn(last)
	}
	return among(x, -1, 0, 1, 2, 3, 4, 5, 16, 4095, 4096, math.MinInt, math.MaxInt)
}

// block is a leaf's bytes: zeros, what is committed there, or others.
func (x *run) block(n, place int) api.Block {
	switch x.r.Intn(6) {
	case 0:
		return api.Block{}
	case 1, 2:
		return x.m.old[n].leaves[place]
	}
	return full(x.r.Intn(4))
}

// stamp is few unlike ones, so that things come back to what they were.
func (x *run) stamp() uint64 {
	return among[uint64](x, 1, 1, 1, 2, math.MaxUint64)
}

// answer is what a call answered, as far as it is asked here, and its error.
type answer struct {
	err   api.Errno
	n     int
	info  api.Info
	block api.Block
}

func (a answer) String() string {
	return fmt.Sprint(a.err, a.n, a.info, brief(a.block))
}

// one does something that was drawn: a call of the inodes' own, and the same of the model's.
func (x *run) one() (name string, got answer, want func(m *model) answer) {
	n, stamp := x.number(), x.stamp()
	switch x.r.Intn(13) {
	case 0, 1:
		kind := among(x, file, file, file, dir, dir, 0, 3, -1)
		got.n, got.err = x.x.Make(kind, stamp)
		return fmt.Sprint("Make ", kind), got, func(m *model) (a answer) { a.n, a.err = m.mk(kind, stamp); return }
	case 2:
		by := among(x, 0, 1, -1, 2, 998, 999, -999, 1000, math.MinInt, math.MaxInt)
		got.err = x.x.Links(n, by, stamp)
		return fmt.Sprint("Links ", n, by), got, func(m *model) answer { return answer{err: m.links(n, by, stamp)} }
	case 3, 4, 5:
		size := x.size()
		got.err = x.x.Resize(n, size, stamp)
		return fmt.Sprint("Resize ", n, size), got, func(m *model) answer { return answer{err: m.resize(n, size, stamp)} }
	case 6:
		got.err = x.x.Drop(n)
		return fmt.Sprint("Drop ", n), got, func(m *model) answer { return answer{err: m.drop(n)} }
	case 7:
		got.err = x.x.Touch(n, stamp)
		return fmt.Sprint("Touch ", n), got, func(m *model) answer { return answer{err: m.touch(n, stamp)} }
	}
	place := x.place(n)
	b := x.block(n, place)
	got.err = x.x.Set(n, place, b, stamp)
	return fmt.Sprint("Set ", n, place), got, func(m *model) answer { return answer{err: m.set(n, place, b, stamp)} }
}

// step does something that was drawn, which must be answered as the model does.
func (x *run) step() {
	x.t.Helper()
	name, got, want := x.one()
	if want := want(x.m); got != want {
		x.t.Fatalf("%s = %v; want %v", name, got, want)
	}
}

func TestRuns(t *testing.T) {
	for seed := range int64(120) {
		x := drawn(t, seed, []int{0, 1, 7, 500}[seed%4])
		for range 14 {
			for range 1 + x.r.Intn(5) {
				x.step()
			}
			x.holds("a run", x.x, x.m)
			x.lays("a run", x.x, x.m)
			if x.r.Intn(3) == 0 {
				x.x, x.m = x.commits("a run", x.x, x.m)
				x.holds("committed", x.x, x.m)
			}
			if t.Failed() {
				t.Fatalf("seed %d", seed)
			}
		}
	}
}

// Two that were one go two ways.
func TestRunsOfClones(t *testing.T) {
	for seed := range int64(60) {
		x := drawn(t, seed, []int{0, 5, 500}[seed%3])
		for range 20 {
			x.step()
		}
		if seed%2 == 0 {
			x.x, x.m = x.commits("a run", x.x, x.m)
		}
		for range 4 {
			x.step()
		}
		y := &run{x.stand, x.r, x.x.Clone(), x.m.clone()}
		for range 8 {
			among(x, x, y).step()
			x.holds("the one", x.x, x.m)
			x.holds("the other", y.x, y.m)
		}
		x.lays("the one", x.x, x.m)
		x.lays("the other", y.x, y.m)
		if t.Failed() {
			t.Fatalf("seed %d", seed)
		}
	}
}

// ask is a call that changes nothing.
func (x *run) ask() (name string, got, want answer) {
	n := x.number()
	place := x.place(n)
	switch x.r.Intn(6) {
	case 0:
		var l, all []int
		l, got.err = x.x.All()
		all = slices.Sorted(maps.Keys(x.m.now))
		if len(l) > 0 || got.err == api.OK {
			got.n, want.n = slices.Compare(l, all), 0
		}
		return "All", got, want
	case 1:
		got.n, got.err = x.x.High()
		want.n = x.m.now.high()
		return "High", got, want
	case 2:
		got.n, got.err = x.x.New()
		want.n, _ = x.m.counts()
		return "New", got, want
	case 3:
		c := counter{next: 3000}
		out, err := x.x.Out(c.take)
		if err != api.OK && !isZero(out) {
			x.t.Errorf("Out = %d, and has more beside it", err)
		}
		got.n, got.err = len(out.Writes), err
		want.n, _ = x.m.counts()
		return "Out", got, want
	case 4:
		got.info, got.err = x.x.Get(n)
		i, err := x.m.find(n)
		want.info, want.err = i.Info, err
		return "Get", got, want
	}
	got.block, got.err = x.x.Leaf(n, place)
	want.block, want.err = x.m.leaf(n, place)
	return "Leaf", got, want
}

// plans lets an adversary do much at the next raw steps.
func (x *run) plans() {
	var steps []api.Step
	for range 40 {
		op := x.d.Ops() + x.r.Intn(60)
		steps = append(steps, api.Step{Op: op, Kind: 1 + x.r.Intn(3), At: x.r.Intn(int(x.next)), Data: full(x.r.Intn(4)), Back: x.r.Intn(op + 1)})
	}
	x.d.Plan(steps)
}

// Whatever an adversary does meanwhile, an answer is the right one, or ErrTampered, and then nothing is changed.
func TestRunsWithAnAdversary(t *testing.T) {
	right, tampered := 0, 0
	for seed := range int64(150) {
		x := drawn(t, seed, []int{0, 1, 7, 500}[seed%4])
		for range 40 {
			x.step()
		}
		x.x, x.m = x.commits("a run", x.x, x.m)
		tell := func(name string, got, want answer) bool {
			switch got {
			case want:
				right++
				return true
			case answer{err: api.ErrTampered}:
				tampered++
				return false
			}
			t.Fatalf("seed %d: %s = %v; want %v", seed, name, got, want)
			return false
		}
		for range 3 {
			image := x.d.Image()
			x.plans()
			for range 12 {
				name, got, want := x.one()
				next := x.m.clone()
				if tell(name, got, want(next)) {
					x.m = next
				}
				tell(x.ask())
			}
			x.d.Plan(nil)
			x.d.Load(image)
			x.holds("laid back", x.x, x.m)
			x.x, x.m = x.commits("laid back", x.x, x.m)
		}
		if t.Failed() {
			t.Fatalf("seed %d", seed)
		}
	}
	if right < 3000 || tampered < 500 {
		t.Errorf("%d were right, %d tampered", right, tampered)
	}
}

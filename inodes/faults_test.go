package inodes_test

import (
	"slices"
	"testing"

	"signet/api"
	"signet/inodes"
)

// way is the positions on the way to an inode's leaf of the table, of those inodes that are committed here.
func way(n int) []at {
	return []at{{0, 1, 0}, {0, 0, (n - 1) / 4}}
}

// bytesWay is these, and the positions on the way to a leaf of it.
func bytesWay(n, place, height int) []at {
	l := way(n)
	for level := range height + 1 {
		l = append(l, at{n, level, place >> (2 * level)})
	}
	return l
}

// call is a call, the same of the model's, and what has to be read for it.
type call struct {
	name  string
	do    func(x *inodes.Inodes) answer
	want  func(m *model) answer
	needs []at
}

// only is an answer that is an error or OK.
func only(err api.Errno) answer {
	return answer{err: err}
}

// getting is the calls that tell what is there.
func getting() []call {
	all := []at{{0, 1, 0}, {0, 0, 0}, {0, 0, 1}}
	l := []call{
		{"High", func(x *inodes.Inodes) (a answer) { a.n, a.err = x.High(); return }, func(m *model) answer { return answer{n: m.now.high()} }, nil},
		{"New", func(x *inodes.Inodes) (a answer) { a.n, a.err = x.New(); return }, func(m *model) answer { return answer{} }, nil},
		{"All", func(x *inodes.Inodes) answer { l, err := x.All(); return answer{n: len(l), err: err} }, func(m *model) answer { return answer{n: len(m.now)} }, all},
		{"Make", func(x *inodes.Inodes) (a answer) { a.n, a.err = x.Make(dir, 9); return }, func(m *model) (a answer) { a.n, a.err = m.mk(dir, 9); return }, all},
	}
	for _, n := range []int{1, 2, 3, 4, 5, 6, 7} {
		l = append(l, call{"Get", func(x *inodes.Inodes) (a answer) { a.info, a.err = x.Get(n); return }, func(m *model) answer {
			i, err := m.find(n)
			return answer{info: i.Info, err: err}
		}, way(n)})
	}
	for _, p := range []struct{ n, place, height int }{{1, 0, 0}, {2, 0, 0}, {3, 0, 3}, {3, 6, 3}, {3, 7, 3}, {3, 19, 3}, {5, 1, 1}, {6, 3, 1}} {
		l = append(l, call{"Leaf", func(x *inodes.Inodes) (a answer) { a.block, a.err = x.Leaf(p.n, p.place); return }, func(m *model) (a answer) { a.block, a.err = m.leaf(p.n, p.place); return }, bytesWay(p.n, p.place, p.height)})
	}
	return l
}

// changing is the calls that change something.
func changing() []call {
	var l []call
	for n := 1; n <= 7; n++ {
		l = append(l,
			call{"Touch", func(x *inodes.Inodes) answer { return only(x.Touch(n, 9)) }, func(m *model) answer { return only(m.touch(n, 9)) }, way(n)},
			call{"Links", func(x *inodes.Inodes) answer { return only(x.Links(n, 1, 9)) }, func(m *model) answer { return only(m.links(n, 1, 9)) }, way(n)},
			call{"Drop", func(x *inodes.Inodes) answer { return only(x.Drop(n)) }, func(m *model) answer { return only(m.drop(n)) }, way(n)},
			call{"Set", func(x *inodes.Inodes) answer { return only(x.Set(n, 0, full(90), 9)) }, func(m *model) answer { return only(m.set(n, 0, full(90), 9)) }, way(n)},
			call{"Resize to nothing", func(x *inodes.Inodes) answer { return only(x.Resize(n, 0, 9)) }, func(m *model) answer { return only(m.resize(n, 0, 9)) }, way(n)},
			call{"Resize to more", func(x *inodes.Inodes) answer { return only(x.Resize(n, 64000, 9)) }, func(m *model) answer { return only(m.resize(n, 64000, 9)) }, way(n)},
		)
	}
	for _, p := range []struct{ n, size, height int }{{1, 64, 0}, {3, 4999, 3}, {3, 1300, 3}, {3, 5, 3}, {4, 255, 0}, {5, 299, 1}, {6, 700, 1}} {
		l = append(l, call{"Resize to less", func(x *inodes.Inodes) answer { return only(x.Resize(p.n, p.size, 9)) }, func(m *model) answer { return only(m.resize(p.n, p.size, 9)) }, bytesWay(p.n, p.size/256, p.height)})
	}
	return append(l, call{"Resize at a leaf's end", func(x *inodes.Inodes) answer { return only(x.Resize(3, 1024, 9)) }, func(m *model) answer { return only(m.resize(3, 1024, 9)) }, way(3)})
}

// A block that was written over is told by those calls that need it, which change nothing, and by no others.
func TestBlocksWrittenOver(t *testing.T) {
	s := made(t, 512, 0)
	_, m := s.committed()
	table := api.Tree{Height: 1, Root: m.refs[at{0, 1, 0}]}
	image := s.d.Image()
	for _, c := range slices.Concat(getting(), changing()) {
		for p, r := range m.refs {
			x, e := s.open(table, 6), m.clone()
			s.over(r.At, full(9999))
			got, want := c.do(x), only(api.ErrTampered)
			if !slices.Contains(c.needs, p) {
				want = c.want(e)
			}
			if got != want {
				t.Errorf("%s with the block at %v written over = %v; want %v", c.name, p, got, want)
			}
			s.d.Load(image)
			s.holds(c.name+", laid back", x, e)
		}
		if t.Failed() {
			t.FailNow()
		}
	}
}

// Without power each call tells that, or what is kept.
func TestWithoutPower(t *testing.T) {
	for _, room := range []int{0, 100} {
		for _, c := range slices.Concat(getting(), changing()) {
			s := made(t, 512, room)
			x, m := s.committed()
			s.c.Clear()
			s.dies()
			want := only(api.ErrCut)
			if len(c.needs) == 0 {
				want = c.want(m)
			}
			if got := c.do(x); got != want {
				t.Errorf("%s without power = %v; want %v", c.name, got, want)
			}
			s.d.Revive()
			s.holds(c.name+", with power again", x, m)
		}
	}
}

// What is new, and how it is laid out, is told rightly or not at all, whichever block was written over.
func TestOutWithBlocksWrittenOver(t *testing.T) {
	s := made(t, 512, 0)
	_, m := s.committed()
	table := api.Tree{Height: 1, Root: m.refs[at{0, 1, 0}]}
	image := s.d.Image()
	right, tampered := 0, 0
	for _, c := range changing() {
		for _, r := range m.refs {
			x, e := s.open(table, 6), m.clone()
			if got, want := c.do(x), c.want(e); got != want {
				t.Fatalf("%s = %v; want %v", c.name, got, want)
			}
			many, let := e.counts()
			s.over(r.At, full(9999))
			n, err := x.New()
			if (n != many || err != api.OK) && (n != 0 || err != api.ErrTampered) {
				t.Errorf("%s: New = %d, %d; want %d", c.name, n, err, many)
			}
			k := counter{next: 300}
			out, err := x.Out(k.take)
			switch {
			case err == api.ErrTampered && isZero(out):
				tampered++
			case err == api.OK && len(out.Writes) == many && k.calls == many && slices.Equal(out.Let, let):
				right++
			default:
				t.Errorf("%s: Out has %d writes, lets %v go, %d", c.name, len(out.Writes), out.Let, err)
			}
			s.d.Load(image)
			s.holds(c.name+", laid back", x, e)
			s.lays(c.name+", laid back", x, e)
		}
		if t.Failed() {
			t.FailNow()
		}
	}
	if right < 500 || tampered < 50 {
		t.Errorf("%d were right, %d tampered", right, tampered)
	}
}

// To know what is new no leaf has to be read that nothing changed, not of the table either: but the highest number in use stands in one.
func TestLeavesThatNothingChanged(t *testing.T) {
	s := made(t, 512, 0)
	x, m := s.empty(), fresh()
	for range 9 {
		s.make(x, file)
		m.mk(file, 1)
	}
	x, m = s.commits("nine", x, m)
	s.ok(x.Drop(9), m.drop(9))
	image := s.d.Image()
	for place := range 2 {
		s.over(m.refs[at{0, 0, place}].At, full(9999))
	}
	many, _ := m.counts()
	s.news("with leaves that are lost", x, many)
	if n, err := x.High(); n != 0 || err != api.ErrTampered {
		t.Errorf("High = %d, %d; want ErrTampered", n, err)
	}
	if out, err := x.Out(s.take); !isZero(out) || err != api.ErrTampered {
		t.Errorf("Out = %d; want ErrTampered", err)
	}
	s.d.Load(image)
	s.holds("laid back", x, m)
	s.lays("laid back", x, m)
}

// What lies where a leaf of the table or a node must, and is none.
func TestTablesThatAreNone(t *testing.T) {
	s := made(t, 64, 0)
	one := api.Inode{Kind: file, Links: 1}
	zeros, junk := s.lay(api.Block{}), s.lay(full(5))
	spoilt := s.lay(api.Block{64: 3})
	low := s.node(1, s.four(one), s.four(one))
	for _, c := range []struct {
		name string
		root api.Ref
		high int
		want api.Errno
	}{
		{"bytes in place of a leaf", junk, 1, api.ErrInode},
		{"an inode that may not be", spoilt, 1, api.ErrInode},
		{"a node in place of a leaf", low, 1, api.ErrInode},
		{"bytes in place of a node", junk, 5, api.ErrNode},
		{"zeros in place of a node", zeros, 5, api.ErrNode},
		{"a leaf in place of a node", s.four(one), 5, api.ErrNode},
		{"a node of another level", low, 17, api.ErrNode},
		{"bytes in place of leaves", s.node(1, junk, junk), 5, api.ErrInode},
		{"bytes in place of nodes", s.node(2, junk, junk), 17, api.ErrNode},
		{"no node of the highest level", junk, api.MaxInodes, api.ErrNode},
		{"another digest", api.Ref{At: junk.At, Sum: zeros.Sum}, 1, api.ErrTampered},
		{"a number that the disk has not", api.Ref{At: 64, Sum: junk.Sum}, 1, api.ErrTampered},
	} {
		for _, h := range highs {
			if h.high != c.high {
				continue
			}
			x := s.open(api.Tree{Height: h.height, Root: c.root}, c.high)
			s.failsAll(x, 1, c.want)
			s.wrongFirst(x)
			if n, err := x.High(); n != c.high || err != api.OK {
				t.Errorf("%s: High = %d, %d; want %d", c.name, n, err, c.high)
			}
			s.news(c.name, x, 0)
		}
	}
}

// wrongFirst asks that what is wrong with the arguments alone is told ahead of what can't be read.
func (s *stand) wrongFirst(x *inodes.Inodes) {
	s.t.Helper()
	for _, n := range noNumbers {
		s.fails(x, n, api.ErrNumber)
	}
	for _, place := range noPlaces {
		s.failsAt(x, 1, place, api.ErrPlace)
	}
	for _, size := range noSizes {
		if err := x.Resize(1, size, 9); err != api.ErrArg {
			s.t.Errorf("Resize(1, %d) = %d; want ErrArg", size, err)
		}
	}
	for _, kind := range noKinds {
		if n, err := x.Make(kind, 9); n != 0 || err != api.ErrArg {
			s.t.Errorf("Make(%d) = %d, %d; want ErrArg", kind, n, err)
		}
	}
	if out, err := x.Out(nil); !isZero(out) || err != api.ErrArg {
		s.t.Errorf("Out(nil) = %d; want ErrArg", err)
	}
}

// What lies where a node of an inode must, and is none: it is told when it is needed.
func TestBytesThatAreNone(t *testing.T) {
	s := made(t, 64, 0)
	junk := s.lay(full(5))
	leaf := s.lay(full(6))
	for _, root := range []api.Ref{junk, s.lay(api.Block{}), s.node(2, leaf)} {
		table := api.Tree{Root: s.four(api.Inode{Kind: dir, Links: 1}, api.Inode{Kind: file, Links: 1, Size: 1000, Stamp: 3, Tree: api.Tree{Height: 1, Root: root}})}
		open := func() *inodes.Inodes { return s.open(table, 2) }
		fails := func(what string, x *inodes.Inodes) {
			t.Helper()
			if n, err := x.New(); n != 0 || err != api.ErrNode {
				t.Errorf("%s: New = %d, %d; want ErrNode", what, n, err)
			}
			failsOut(t, what, x, api.ErrNode)
		}
		x := open()
		if b, err := x.Leaf(2, 0); b != (api.Block{}) || err != api.ErrNode {
			t.Errorf("Leaf = %v, %d; want ErrNode", b[:8], err)
		}
		if err := x.Resize(2, 999, 9); err != api.ErrNode {
			t.Errorf("Resize = %d; want ErrNode", err)
		}
		s.info(x, api.Info{Number: 2, Kind: file, Links: 1, Size: 1000, Stamp: 3})
		s.news("nothing changed", x, 0)
		s.ok(x.Set(2, 1, full(7), 3))
		s.leaf(x, 2, 1, full(7))
		fails("a leaf that was set", x)

		x = open()
		s.ok(x.Resize(2, 512, 3))
		fails("two leaves", x)

		// What goes as a whole is looked at when it is told which blocks go.
		x = open()
		s.ok(x.Drop(2))
		s.news("dropped", x, 1)
		failsOut(t, "dropped", x, api.ErrNode)

		// And what stays as it is need not be looked at.
		x = open()
		s.ok(x.Touch(2, 4), x.Resize(2, 5000, 4))
		s.news("a node more above", x, 3)
		if out := s.out(x); len(out.Writes) != 3 {
			t.Errorf("Out has %d writes", len(out.Writes))
		}
	}
}

func failsOut(t *testing.T, what string, x *inodes.Inodes, want api.Errno) {
	t.Helper()
	c := counter{next: 30}
	if out, err := x.Out(c.take); !isZero(out) || err != want {
		t.Errorf("%s: Out = %d, or has more beside it; want %d", what, err, want)
	}
}

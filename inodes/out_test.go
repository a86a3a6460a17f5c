package inodes_test

import (
	"slices"
	"testing"

	"signet/api"
	"signet/block"
	"signet/inode"
	"signet/inodes"
	"signet/node"
)

// 15.5

// referred is the references that a block has, if it is a node or a leaf of the table.
func referred(b api.Block) []api.Ref {
	if n, err := node.Read(b); err == api.OK {
		return n.Kids[:]
	}
	var refs []api.Ref
	if four, _, err := inode.FromLeaf(b); err == api.OK {
		for _, x := range four {
			refs = append(refs, x.Tree.Root)
		}
	}
	return refs
}

// ordered asks that the writes have the numbers that take told, from one on, each once, that what refers to a block that is new comes behind it, and that all was digested in the log.
func (s *stand) ordered(what string, out api.Out, from uint32) {
	s.t.Helper()
	written := map[uint32]api.Sum{}
	isNew := func(at uint32) bool { return at >= from && int(at-from) < len(out.Writes) }
	holds := func(r api.Ref) {
		if sum, is := written[r.At]; isNew(r.At) && (!is || sum != r.Sum) {
			s.t.Errorf("%s: the block %d is referred to ahead of its write, or by another digest", what, r.At)
		}
	}
	for _, w := range out.Writes {
		if _, is := written[w.At]; is || !isNew(w.At) {
			s.t.Errorf("%s: a write of the block %d", what, w.At)
		}
		for _, r := range referred(w.Data) {
			holds(r)
		}
		written[w.At] = block.Sum(w.Data)
		if !s.log.Has(api.TagBlock, block.Text(w.Data)) {
			s.t.Errorf("%s: the block %d was not digested", what, w.At)
		}
	}
	holds(out.Table.Root)
	if len(out.Writes) > 0 && !isNew(out.Table.Root.At) {
		s.t.Errorf("%s: the table's root %d is not new", what, out.Table.Root.At)
	}
}

// some is inodes of several kinds and sizes, in two leaves of the table, and what they must be.
func (s *stand) some() (*inodes.Inodes, *model) {
	s.t.Helper()
	x, m := s.empty(), fresh()
	do := func(err, want api.Errno) {
		s.t.Helper()
		if err != api.OK || want != api.OK {
			s.t.Fatal(err, want)
		}
	}
	for i, size := range []int{192, 0, 5000, 256, 300, 1024} {
		kind := file
		if i == 0 {
			kind = dir
		}
		n, err := x.Make(kind, 3)
		_, e := m.mk(kind, 3)
		do(err, e)
		do(x.Resize(n, size, 4), m.resize(n, size, 4))
		for place := range (size + 255) / 256 {
			if place != 7 {
				do(x.Set(n, place, full(place+1), 5), m.set(n, place, full(place+1), 5))
			}
		}
	}
	return x, m
}

// committed is these inodes, committed.
func (s *stand) committed() (*inodes.Inodes, *model) {
	s.t.Helper()
	x, m := s.some()
	return s.commits("some", x, m)
}

// What is new, written out.
func TestNew(t *testing.T) {
	s := made(t, 512, 8)
	x := s.empty()
	s.news("nothing", x, 0)
	s.make(x, dir)
	s.news("an inode", x, 1)
	for range 3 {
		s.make(x, file)
	}
	s.news("four inodes in one leaf", x, 1)
	s.make(x, file)
	s.news("two leaves and a node", x, 3)
	s.ok(x.Resize(2, 1000, 1))
	s.news("zeros are none", x, 3)
	s.ok(x.Set(2, 0, full(1), 1))
	s.news("a leaf and a node", x, 5)
	s.ok(x.Set(2, 3, full(1), 1))
	s.news("two leaves and a node", x, 6)
	s.ok(x.Resize(2, 1025, 1))
	s.news("a node more above", x, 7)
	s.ok(x.Set(2, 4, full(1), 1))
	s.news("with a leaf and a node beneath it", x, 9)
	s.ok(x.Resize(2, 256, 1))
	s.news("one leaf", x, 4)
	s.ok(x.Set(2, 0, api.Block{}, 1))
	s.news("which is zeros", x, 3)

	s.ok(x.Set(2, 0, full(2), 1))
	x, _ = s.commit(x)
	s.news("as it is committed", x, 0)
	s.ok(x.Touch(5, 2))
	s.news("a stamp: a leaf of the table and its node", x, 2)
	s.ok(x.Touch(1, 2))
	s.news("and the other leaf", x, 3)
	s.ok(x.Touch(5, 1), x.Touch(1, 1))
	s.news("the old stamps", x, 0)
	s.ok(x.Links(3, 1, 1))
	s.news("a link", x, 2)
	s.ok(x.Links(3, -1, 1))
	s.news("and none", x, 0)
	s.ok(x.Resize(3, 10, 1))
	s.news("a size", x, 2)
	s.ok(x.Resize(3, 0, 1))
	s.news("the old size", x, 0)
	s.ok(x.Set(2, 0, full(3), 1))
	s.news("a leaf", x, 3)
	s.ok(x.Set(2, 0, full(2), 1))
	s.news("the old leaf", x, 0)
	s.ok(x.Set(2, 0, api.Block{}, 1))
	s.news("no leaf", x, 2)
	s.ok(x.Resize(2, 255, 1), x.Resize(2, 256, 1), x.Set(2, 0, full(2), 1))
	s.news("the old leaf", x, 0)
	s.ok(x.Set(2, 0, full(2), 9))
	s.news("the old leaf with a new stamp", x, 2)
	s.ok(x.Touch(2, 1))
	s.news("and with the old one", x, 0)
	s.ok(x.Drop(5))
	s.news("a leaf of the table less, and the other one is kept", x, 0)
	s.make(x, file)
	s.news("as it was", x, 0)
	s.ok(x.Drop(5), x.Drop(2))
	s.news("one in the first leaf less, too", x, 1)
	s.ok(x.Drop(1), x.Drop(3), x.Drop(4))
	s.news("no inodes", x, 0)
}

// What goes and comes again is held against what is committed by that number.
func TestNumbersThatComeAgain(t *testing.T) {
	s := made(t, 512, 8)
	x, m := s.committed()
	refs := m.refs
	for _, n := range []int{1, 3, 4, 6} {
		old := m.old[n]
		s.ok(x.Drop(n), m.drop(n))
		s.holds("dropped", x, m)
		if again := s.make(x, old.Kind); again != n {
			t.Fatalf("Make = %d; want %d", again, n)
		}
		m.mk(old.Kind, 1)
		s.ok(x.Resize(n, old.Size, 2), m.resize(n, old.Size, 2))
		s.holds("made again, with zeros", x, m)
		for place, b := range old.leaves {
			s.ok(x.Set(n, place, b, old.Stamp), m.set(n, place, b, old.Stamp))
			s.holds("with one more of its leaves", x, m)
		}
		s.news("as it was", x, 0)
		if out := s.lays("as it was", x, m); len(out.Let) != 0 || out.Table.Root != refs[at{0, 1, 0}] {
			t.Errorf("Out has %d writes, lets %v go, and the table is %v", len(out.Writes), out.Let, out.Table)
		}
	}
}

// What is let go, written out.
func TestLet(t *testing.T) {
	s := made(t, 512, 8)
	_, m := s.committed()
	table := api.Tree{Height: 1, Root: m.refs[at{0, 1, 0}]}
	every := func(number int, more ...at) []at {
		for p := range m.refs {
			if p.number == number {
				more = append(more, p)
			}
		}
		return more
	}
	low, high, root := at{0, 0, 0}, at{0, 0, 1}, at{0, 1, 0}
	for _, c := range []struct {
		name string
		do   func(x *inodes.Inodes) api.Errno
		let  []at
	}{
		{"nothing", func(x *inodes.Inodes) api.Errno { return api.OK }, nil},
		{"a stamp", func(x *inodes.Inodes) api.Errno { return x.Touch(2, 77) }, []at{low, root}},
		{"a stamp in the other leaf", func(x *inodes.Inodes) api.Errno { return x.Touch(6, 77) }, []at{high, root}},
		{"an inode", func(x *inodes.Inodes) api.Errno { return x.Drop(3) }, every(3, low, root)},
		{"a directory", func(x *inodes.Inodes) api.Errno { return x.Drop(1) }, every(1, low, root)},
		{"all bytes", func(x *inodes.Inodes) api.Errno { return x.Resize(6, 0, 5) }, every(6, high, root)},
		{"a leaf", func(x *inodes.Inodes) api.Errno { return x.Set(3, 5, full(99), 5) }, []at{{3, 0, 5}, {3, 1, 1}, {3, 2, 0}, {3, 3, 0}, low, root}},
		{"a leaf to zeros", func(x *inodes.Inodes) api.Errno { return x.Set(3, 5, api.Block{}, 5) }, []at{{3, 0, 5}, {3, 1, 1}, {3, 2, 0}, {3, 3, 0}, low, root}},
		{"a leaf that was zeros", func(x *inodes.Inodes) api.Errno { return x.Set(3, 7, full(99), 5) }, []at{{3, 1, 1}, {3, 2, 0}, {3, 3, 0}, low, root}},
		{"the height", func(x *inodes.Inodes) api.Errno { return x.Resize(5, 5000, 5) }, []at{high, root}},
		{"a node less above", func(x *inodes.Inodes) api.Errno { return x.Resize(3, 4096, 5) }, []at{{3, 0, 16}, {3, 0, 17}, {3, 0, 18}, {3, 0, 19}, {3, 1, 4}, {3, 2, 1}, {3, 3, 0}, low, root}},
		{"all but one leaf", func(x *inodes.Inodes) api.Errno { return x.Resize(6, 256, 5) }, []at{{6, 0, 1}, {6, 0, 2}, {6, 0, 3}, {6, 1, 0}, high, root}},
		{"one that was not committed", func(x *inodes.Inodes) api.Errno {
			n, _ := x.Make(file, 1)
			return x.Drop(n)
		}, nil},
	} {
		x := s.open(table, 6)
		s.ok(c.do(x))
		var want []uint32
		for _, p := range c.let {
			if _, is := m.refs[p]; !is {
				t.Fatalf("%s: nothing is committed at %v", c.name, p)
			}
			want = append(want, m.refs[p].At)
		}
		slices.Sort(want)
		if out := s.out(x); !slices.Equal(out.Let, want) {
			t.Errorf("%s: Let = %v; want %v", c.name, out.Let, want)
		}
	}
}

// The table is as high as the highest number asks for, up and down.
func TestHeightOfTheTable(t *testing.T) {
	for _, many := range []int{1, 4, 5, 16, 17, 64, 65, 257} {
		for _, left := range []int{0, 1, 4, 5, 12, 16, 17, 64, 65} {
			if left > many {
				continue
			}
			s := made(t, 2048, 3)
			x, m := s.empty(), fresh()
			for range many {
				s.make(x, file)
				m.mk(file, 1)
			}
			x, m = s.commits("many", x, m)
			for n := many; n > left; n-- {
				s.ok(x.Drop(n), m.drop(n))
			}
			// New asks first, ahead of all that reads more.
			news, _ := m.counts()
			s.news("few", x, news)
			s.lays("few", x, m)
			s.all(x, slices.Collect(numbers(left))...)
			x, m = s.commits("few", x, m)
			s.holds("few", x, m)
			for n := left; n < many; n++ {
				s.make(x, file)
				m.mk(file, 1)
			}
			s.holds("many again", x, m)
			s.lays("many again", x, m)
		}
	}
}

// numbers is the numbers from 1 to high.
func numbers(high int) func(func(int) bool) {
	return func(yield func(int) bool) {
		for n := 1; n <= high && yield(n); n++ {
		}
	}
}

// Few of many numbers are left, and not the first ones.
func TestFewOfManyNumbers(t *testing.T) {
	for _, left := range [][]int{{70}, {3}, {17}, {15, 16}, {64}, {65, 66}, {1, 70}, {33, 50}, {5}} {
		s := made(t, 2048, 3)
		x, m := s.empty(), fresh()
		for range 70 {
			s.make(x, file)
			m.mk(file, 1)
		}
		x, m = s.commits("many", x, m)
		for n := 70; n >= 1; n-- {
			if !slices.Contains(left, n) {
				s.ok(x.Drop(n), m.drop(n))
			}
		}
		news, _ := m.counts()
		s.news("few", x, news)
		s.holds("few", x, m)
		x, m = s.commits("few", x, m)
		s.holds("few, committed", x, m)
		for range 3 {
			s.make(x, dir)
			m.mk(dir, 1)
		}
		s.holds("and some more", x, m)
		s.commits("and some more", x, m)
	}
}

// A take that tells an error is not called again, its error is the answer, and nothing is changed.
func TestOutWithATakeThatFails(t *testing.T) {
	s := made(t, 512, 8)
	x, m := s.committed()
	s.ok(x.Set(3, 0, full(70), 8), m.set(3, 0, full(70), 8))
	s.ok(x.Drop(6), m.drop(6))
	s.ok(x.Set(5, 1, full(71), 8), m.set(5, 1, full(71), 8))
	many, _ := m.counts()
	for stop := 1; stop <= many; stop++ {
		for _, want := range []api.Errno{api.ErrNoSpace, api.ErrCut, api.ErrArg, api.ErrTampered, 999, -1} {
			c := counter{next: 300, stop: stop, err: want}
			if out, err := x.Out(c.take); !isZero(out) || err != want {
				t.Errorf("Out with a take that tells %d at its call %d = %d, or has more beside it", want, stop, err)
			}
			if c.calls != stop {
				t.Errorf("take was called %d times; want %d", c.calls, stop)
			}
		}
	}
	if out, err := x.Out(nil); !isZero(out) || err != api.ErrArg {
		t.Errorf("Out(nil) = %d; want ErrArg", err)
	}
	s.holds("behind takes that failed", x, m)
	s.lays("behind takes that failed", x, m)

	c := counter{next: 300, stop: 1, err: api.ErrNoSpace}
	x, m = s.commits("a run", x, m)
	if out, err := x.Out(c.take); err != api.OK || c.calls != 0 || len(out.Writes) != 0 || len(out.Let) != 0 || out.High != 5 || out.Table.Root != m.refs[at{0, 1, 0}] {
		t.Errorf("Out of nothing new has %d writes, lets %v go, %d; take was called %d times", len(out.Writes), out.Let, err, c.calls)
	}
	if out, err := x.Out(nil); !isZero(out) || err != api.ErrArg {
		t.Errorf("Out(nil) of nothing new = %d; want ErrArg", err)
	}
}

// No disk has a block with such a number, and none may be written to block 0.
func TestOutWithNumbersThatNoBlockHas(t *testing.T) {
	s := made(t, 512, 8)
	x, m := s.committed()
	s.ok(x.Set(3, 0, full(70), 8), m.set(3, 0, full(70), 8))
	many, _ := m.counts()
	for _, at := range []uint32{0, api.MaxBlocks, api.MaxBlocks + 1, 1<<32 - 1} {
		for stop := 1; stop <= many; stop++ {
			c := counter{next: 300}
			out, err := x.Out(func() (uint32, api.Errno) {
				if n, err := c.take(); c.calls != stop {
					return n, err
				}
				return at, api.OK
			})
			if !isZero(out) || err != api.ErrArg {
				t.Errorf("Out with the number %d = %d; want ErrArg", at, err)
			}
		}
	}
	last := uint32(api.MaxBlocks)
	if out, err := x.Out(func() (uint32, api.Errno) { last--; return last, api.OK }); err != api.OK || len(out.Writes) != many || out.Writes[0].At != api.MaxBlocks-1 {
		t.Errorf("Out with the last numbers has %d writes, %d", len(out.Writes), err)
	}
	s.holds("behind such numbers", x, m)
}

// What a take does with the inodes meanwhile is not laid out.
func TestOutWithATakeThatChangesTheInodes(t *testing.T) {
	s := made(t, 512, 8)
	x, m := s.committed()
	s.ok(x.Set(3, 0, full(70), 8), m.set(3, 0, full(70), 8))
	s.ok(x.Set(6, 0, full(70), 8), m.set(6, 0, full(70), 8))
	want := s.lays("as they are", x, m)
	c := counter{next: s.next}
	out, err := x.Out(func() (uint32, api.Errno) {
		x.Drop(6)
		x.Set(3, 1, full(c.calls), 9)
		x.Resize(5, c.calls, 9)
		x.Make(file, 9)
		return c.take()
	})
	if err != api.OK || out.Table != want.Table || out.High != want.High || !slices.Equal(out.Writes, want.Writes) || !slices.Equal(out.Let, want.Let) {
		t.Errorf("Out = %v, %d; want %v", out.Table, err, want.Table)
	}
}

// Out tells the same as often as it is asked, whatever is done with an answer.
func TestOutAgain(t *testing.T) {
	s := made(t, 512, 8)
	x, m := s.committed()
	s.ok(x.Drop(6), m.drop(6))
	s.ok(x.Set(3, 0, full(70), 8), m.set(3, 0, full(70), 8))
	want := s.lays("once", x, m)
	table, writes, let := want.Table, slices.Clone(want.Writes), slices.Clone(want.Let)
	for i := range cap(want.Writes) {
		want.Writes[:cap(want.Writes)][i] = api.Write{At: 5, Data: full(5)}
	}
	for i := range cap(want.Let) {
		want.Let[:cap(want.Let)][i] = 5
	}
	again := s.lays("again", x, m)
	if again.Table != table || !slices.Equal(again.Writes, writes) || !slices.Equal(again.Let, let) {
		t.Errorf("Out = %v, which lets %v go; want %v, %v", again.Table, again.Let, table, let)
	}
	s.holds("behind Out", x, m)
}

// Nothing is written, and what stands stays.
func TestOutWritesNothing(t *testing.T) {
	s := made(t, 512, 0)
	x, _ := s.committed()
	image := s.d.Image()
	s.ok(x.Drop(6), x.Set(3, 0, full(70), 8), x.Resize(4, 3, 8))
	s.reads(func() {
		s.out(x)
		x.New()
	})
	if !slices.Equal(s.d.Image(), image) {
		t.Error("the disk is another one")
	}
}

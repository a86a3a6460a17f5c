package dir_test

import (
	"maps"
	"math"
	"slices"
	"testing"

	"signet/api"
)

// What is committed here: directories of many leaves, of one and of none, one whose last entry stands alone in its leaf, and a file.
const (
	many = 1 + iota
	four
	five
	none
	file
	two
)

// committed is these.
func (s *stand) committed() (api.Out, model) {
	s.t.Helper()
	x, m := s.empty(), model{}
	putDir(s.t, x, m, some(22))
	putDir(s.t, x, m, some(4))
	putDir(s.t, x, m, some(5))
	putDir(s.t, x, m, nil)
	putFile(s.t, x, m, inBytes(some(3)))
	putDir(s.t, x, m, some(2))
	_, out := s.commit(x)
	return out, m
}

// heights and lengths is how high the trees of the directories are, and how many leaves they have.
var (
	heights = map[int]int{many: 2, five: 1}
	lengths = map[int]int{many: 6, four: 1, five: 2, two: 1}
)

// needs is the positions on the way to inodes' leaves of the table.
func needs(numbers ...int) []at {
	l := []at{{0, 1, 0}}
	for _, n := range numbers {
		l = append(l, at{0, 0, (n - 1) / 4})
	}
	return l
}

// leaves is these, and the positions on the way to leaves of an inode.
func leaves(n int, places ...int) []at {
	l := needs(n)
	for _, place := range places {
		for level := range heights[n] + 1 {
			l = append(l, at{n, level, place >> (2 * level)})
		}
	}
	return l
}

// to is the positions on the way to the leaves of a directory up to one.
func to(n, last int) []at {
	var l []int
	for place := range last + 1 {
		l = append(l, place)
	}
	return leaves(n, l...)
}

// whole is the positions on the way to all leaves of a directory.
func whole(n int) []at {
	return to(n, lengths[n]-1)
}

// of is the name at a place in these directories.
func of(place int) string {
	return some(22)[place].Name
}

// needing is a call, and what has to be read for it.
type needing struct {
	call
	needs []at
}

// telling is calls that change nothing: a name is sought until it is there, a place is read alone.
func telling() []needing {
	return []needing{
		{call{op: "Count", dir: many}, needs(many)},
		{call{op: "Count", dir: none}, needs(none)},
		{call{op: "Count", dir: file}, needs(file)},
		{call{op: "Count", dir: 7}, needs(7)},
		{call{op: "Find", dir: many, s: of(0)}, to(many, 0)},
		{call{op: "Find", dir: many, s: of(3)}, to(many, 0)},
		{call{op: "Find", dir: many, s: of(4)}, to(many, 1)},
		{call{op: "Find", dir: many, s: of(19)}, to(many, 4)},
		{call{op: "Find", dir: many, s: of(21)}, to(many, 5)},
		{call{op: "Find", dir: many, s: "a"}, whole(many)},
		{call{op: "Find", dir: many, s: "a/b"}, needs(many)},
		{call{op: "Find", dir: four, s: of(3)}, whole(four)},
		{call{op: "Find", dir: four, s: "a"}, whole(four)},
		{call{op: "Find", dir: five, s: of(3)}, to(five, 0)},
		{call{op: "Find", dir: five, s: of(4)}, whole(five)},
		{call{op: "Find", dir: none, s: "a"}, needs(none)},
		{call{op: "Find", dir: file, s: of(0)}, needs(file)},
		{call{op: "Entry", dir: many, n: 0}, leaves(many, 0)},
		{call{op: "Entry", dir: many, n: 15}, leaves(many, 3)},
		{call{op: "Entry", dir: many, n: 16}, leaves(many, 4)},
		{call{op: "Entry", dir: many, n: 21}, leaves(many, 5)},
		{call{op: "Entry", dir: many, n: 22}, needs(many)},
		{call{op: "Entry", dir: many, n: -1}, needs(many)},
		{call{op: "Entry", dir: two, n: 1}, leaves(two, 0)},
		{call{op: "Page", dir: many, n: -1}, needs(many)},
		{call{op: "Page", dir: file, n: -1}, needs(file)},
	}
}

// listing is calls for which all entries are read.
func listing() []needing {
	var l []needing
	for _, c := range []call{{op: "List"}, {op: "Names", inode: 3}, {op: "Page"}, {op: "Page", n: 3}, {op: "Page", s: of(2), n: math.MaxInt}, {op: "Begins"}, {op: "Begins", s: "n1"}, {op: "Matches", s: "*5"}, {op: "Matches", s: "*"}} {
		for _, n := range []int{many, four, five, none, file, two} {
			c.dir = n
			l = append(l, needing{c, whole(n)})
		}
	}
	return l
}

// changing is calls that change entries. For a new one all leaves are read, for one that goes the last leaf, too.
func changing() []needing {
	return []needing{
		{call{op: "Add", dir: many, s: "a", inode: 2, stamp: 9}, whole(many)},
		{call{op: "Add", dir: many, s: of(0), inode: 2, stamp: 9}, to(many, 0)},
		{call{op: "Add", dir: many, s: of(9), inode: 2, stamp: 9}, to(many, 2)},
		{call{op: "Add", dir: many, s: "", inode: 2, stamp: 9}, needs(many)},
		{call{op: "Add", dir: many, s: "a", inode: 0, stamp: 9}, needs(many)},
		{call{op: "Add", dir: four, s: "a", inode: 2, stamp: 9}, whole(four)},
		{call{op: "Add", dir: five, s: "a", inode: 2, stamp: 9}, whole(five)},
		{call{op: "Add", dir: none, s: "a", inode: 2, stamp: 9}, needs(none)},
		{call{op: "Add", dir: file, s: "a", inode: 2, stamp: 9}, needs(file)},
		{call{op: "Add", dir: two, s: "a", inode: 2, stamp: 9}, whole(two)},
		{call{op: "Remove", dir: many, s: of(0), stamp: 9}, leaves(many, 0, 5)},
		{call{op: "Remove", dir: many, s: of(5), stamp: 9}, leaves(many, 0, 1, 5)},
		{call{op: "Remove", dir: many, s: of(20), stamp: 9}, whole(many)},
		{call{op: "Remove", dir: many, s: of(21), stamp: 9}, whole(many)},
		{call{op: "Remove", dir: many, s: "a", stamp: 9}, whole(many)},
		{call{op: "Remove", dir: many, s: "..", stamp: 9}, needs(many)},
		{call{op: "Remove", dir: four, s: of(0), stamp: 9}, whole(four)},
		{call{op: "Remove", dir: five, s: of(0), stamp: 9}, whole(five)},
		{call{op: "Remove", dir: five, s: of(3), stamp: 9}, whole(five)},
		{call{op: "Remove", dir: five, s: of(4), stamp: 9}, whole(five)},
		{call{op: "Remove", dir: none, s: "a", stamp: 9}, needs(none)},
		{call{op: "Remove", dir: file, s: of(0), stamp: 9}, needs(file)},
		{call{op: "Remove", dir: two, s: of(1), stamp: 9}, whole(two)},
		{call{op: "Swap", dir: many, s: of(0), inode: 77, stamp: 9}, to(many, 0)},
		{call{op: "Swap", dir: many, s: of(14), inode: 77, stamp: 9}, to(many, 3)},
		{call{op: "Swap", dir: many, s: of(21), inode: 77, stamp: 9}, whole(many)},
		{call{op: "Swap", dir: many, s: "a", inode: 77, stamp: 9}, whole(many)},
		{call{op: "Swap", dir: many, s: of(0), inode: -1, stamp: 9}, needs(many)},
		{call{op: "Swap", dir: five, s: of(1), inode: 77, stamp: 9}, to(five, 0)},
		{call{op: "Swap", dir: none, s: "a", inode: 77, stamp: 9}, needs(none)},
		{call{op: "Swap", dir: two, s: of(1), inode: 77, stamp: 9}, whole(two)},
	}
}

// A block that was written over is told by those calls that need it, which change nothing, and by no others.
func TestBlocksWrittenOver(t *testing.T) {
	s := made(t, 256, 0)
	out, m := s.committed()
	refs := s.refs(out.Table)
	image := s.d.Image()
	for _, c := range slices.Concat(telling(), listing(), changing()) {
		for p, r := range refs {
			x, e := s.open(out.Table, out.High), maps.Clone(m)
			s.over(r.At, junk())
			got, want := c.do(x), answer{err: api.ErrTampered}
			if !slices.Contains(c.needs, p) {
				want = c.want(e)
			}
			if got != want {
				t.Errorf("%s with the block at %v written over = %s; want %s", c.brief(), p, got.brief(), want.brief())
			}
			s.d.Load(image)
			holds(t, c.brief()+", laid back", x, e)
			if want.err != api.OK {
				isNew(t, c.brief()+", which failed", x, 0)
			}
		}
		if t.Failed() {
			t.FailNow()
		}
	}
}

// The blocks that a call reads are those that it needs.
func TestWhatIsRead(t *testing.T) {
	s := made(t, 256, 0)
	out, m := s.committed()
	refs := s.refs(out.Table)
	for _, c := range slices.Concat(telling(), listing(), changing()) {
		x, e := s.open(out.Table, out.High), maps.Clone(m)
		var want []uint32
		for _, p := range c.needs {
			if r, is := refs[p]; is {
				want = append(want, r.At)
			}
		}
		slices.Sort(want)
		want = slices.Compact(want)
		if l := s.reads(func() { check(t, x, e, c.call) }); !slices.Equal(l, want) {
			t.Errorf("%s read the blocks %v; want %v", c.brief(), l, want)
		}
	}
}

// Without power each call tells that; where only what is kept is needed, it tells that.
func TestWithoutPower(t *testing.T) {
	for _, c := range slices.Concat(telling(), listing(), changing()) {
		s := made(t, 256, 0)
		out, m := s.committed()
		x, y := s.open(out.Table, out.High), s.open(out.Table, out.High)
		if _, err := y.All(); err != api.OK {
			t.Fatal(err)
		}
		s.dies()
		if got := c.do(x); got != (answer{err: api.ErrCut}) {
			t.Errorf("%s without power = %s; want ErrCut", c.brief(), got.brief())
		}
		e, want := maps.Clone(m), answer{err: api.ErrCut}
		if !slices.ContainsFunc(c.needs, func(p at) bool { return p.number != 0 }) {
			want = c.want(e)
		}
		if got := c.do(y); got != want {
			t.Errorf("%s without power, the table being kept = %s; want %s", c.brief(), got.brief(), want.brief())
		}
		s.d.Revive()
		holds(t, c.brief()+", with power again", x, m)
		holds(t, c.brief()+", the table kept, with power again", y, e)
	}
}

// All blocks are written over ahead of each raw step of a call in turn: it has changed all or nothing.
func TestFaultsAtEachStep(t *testing.T) {
	for _, c := range changing() {
		for step := 0; ; step++ {
			s := made(t, 256, 0)
			out, m := s.committed()
			x := s.open(out.Table, out.High)
			image := s.d.Image()
			var plan []api.Step
			from := s.d.Ops()
			for at := 1; at < int(s.next); at++ {
				plan = append(plan, api.Step{Op: from + step, Kind: api.StepBlock, At: at, Data: junk()})
			}
			s.d.Plan(plan)
			e, want := maps.Clone(m), answer{err: api.ErrTampered}
			got := c.do(x)
			met := s.d.Ops() > from+step
			if !met {
				want = c.want(e)
			}
			if got != want {
				t.Fatalf("%s, all written over ahead of its raw step %d = %s; want %s", c.brief(), step, got.brief(), want.brief())
			}
			s.d.Plan(nil)
			s.d.Load(image)
			holds(t, c.brief()+", laid back", x, e)
			if !met {
				break
			}
		}
	}
}

// A block of bytes where a node must be, and a leaf of the table that is none.
func TestNodesThatAreNone(t *testing.T) {
	s := made(t, 64, 0)
	const n = 1
	here := api.Inode{Kind: api.KindDir, Links: 1, Size: 320, Stamp: 1, Tree: api.Tree{Height: 1, Root: s.lay(junk())}}
	table := s.tableOf(here)
	for _, c := range plain(n) {
		if c.op == "Count" {
			continue
		}
		x := s.open(table, 1)
		if got := c.do(x); got != (answer{err: api.ErrNode}) {
			t.Errorf("%s = %s; want ErrNode", c.brief(), got.brief())
		}
		if i, err := x.Get(n); i != (api.Info{Number: n, Kind: api.KindDir, Links: 1, Size: 320, Stamp: 1}) || err != api.OK {
			t.Errorf("behind %s: %v, %d", c.brief(), i, err)
		}
		isNew(t, c.brief(), x, 0)
	}
	for _, c := range plain(n) {
		x := s.open(api.Tree{Root: s.lay(junk())}, 1)
		if got := c.do(x); got != (answer{err: api.ErrInode}) {
			t.Errorf("%s = %s; want ErrInode", c.brief(), got.brief())
		}
	}
}

package file_test

import (
	"maps"
	"math"
	"slices"
	"testing"

	"signet/api"
	"signet/inodes"
)

// The files that are committed here: one of many leaves, two that are the same and have a hole, one of whole leaves, and one without bytes.
const (
	dirHere = 1 + iota
	many
	holed
	twin
	whole
	none
)

// committed is these.
func (s *stand) committed() (api.Out, model) {
	s.t.Helper()
	x, m := s.empty(), model{}
	put(s.t, x, m, api.KindDir, bytes(128, 9))
	put(s.t, x, m, api.KindFile, bytes(5000, 1))
	put(s.t, x, m, api.KindFile, bytes(256, 2)+zeros(256)+bytes(188, 3))
	put(s.t, x, m, api.KindFile, bytes(256, 2)+zeros(256)+bytes(188, 3))
	put(s.t, x, m, api.KindFile, bytes(512, 4))
	put(s.t, x, m, api.KindFile, "")
	_, out := s.commit(x)
	return out, m
}

// heights is how high the trees of these are.
var heights = map[int]int{dirHere: 0, many: 3, holed: 1, twin: 1, whole: 1}

// needs is the positions on the way to inodes' leaves of the table.
func needs(numbers ...int) []at {
	l := []at{{0, 1, 0}}
	for _, n := range numbers {
		l = append(l, at{0, 0, (n - 1) / 4})
	}
	return l
}

// leaves is these, and the positions on the way to leaves of an inode.
func leaves(n int, places ...int) []at {
	l := needs(n)
	for _, place := range places {
		for level := range heights[n] + 1 {
			l = append(l, at{n, level, place >> (2 * level)})
		}
	}
	return l
}

// upFrom is the numbers from one to another.
func upFrom(from, to int) []int {
	var l []int
	for ; from <= to; from++ {
		l = append(l, from)
	}
	return l
}

// needing is a call, and what has to be read for it.
type needing struct {
	call
	needs []at
}

// telling is calls that change nothing.
func telling() []needing {
	tail := bytes(5000, 1)[4990:]
	return []needing{
		{call{op: "Size", n: many}, needs(many)},
		{call{op: "Size", n: none}, needs(none)},
		{call{op: "Size", n: dirHere}, needs(dirHere)},
		{call{op: "Size", n: 7}, needs(7)},
		{call{op: "Read", n: many, at: 300, many: 10}, leaves(many, 1)},
		{call{op: "Read", n: many, at: 255, many: 2}, leaves(many, 0, 1)},
		{call{op: "Read", n: many, at: 4096, many: 9999}, leaves(many, upFrom(16, 19)...)},
		{call{op: "Read", n: many, many: math.MaxInt}, leaves(many, upFrom(0, 19)...)},
		{call{op: "Read", n: many, at: 300}, needs(many)},
		{call{op: "Read", n: many, at: 5000, many: 9}, needs(many)},
		{call{op: "Read", n: holed, at: 256, many: 256}, leaves(holed, 1)},
		{call{op: "Read", n: none, many: 9}, needs(none)},
		{call{op: "Same", n: many, to: holed}, needs(many, holed)},
		{call{op: "Same", n: none, to: none}, needs(none)},
		{call{op: "Same", n: holed, to: twin}, append(leaves(holed, 0, 1, 2), leaves(twin, 0, 1, 2)...)},
		{call{op: "Same", n: whole, to: dirHere}, needs(whole, dirHere)},
		{call{op: "Find", n: many, at: 4900, s: tail}, leaves(many, 19)},
		{call{op: "Find", n: many, at: 4864 - 1, s: tail}, leaves(many, 18, 19)},
		{call{op: "Find", n: many, at: 256, s: bytes(5000, 1)[500:600]}, leaves(many, 1, 2)},
		{call{op: "Find", n: many, at: 256, s: bytes(5000, 1)[412:512]}, leaves(many, 1)},
		{call{op: "Find", n: many, at: 256}, needs(many)},
		{call{op: "Find", n: many, at: 5000}, needs(many)},
		{call{op: "Find", n: many, at: 5001}, needs(many)},
		{call{op: "Find", n: many, s: zeros(5001)}, needs(many)},
		{call{op: "Find", n: whole, s: "\x00"}, leaves(whole, 0, 1)},
		{call{op: "Holes", n: none}, needs(none)},
		{call{op: "Holes", n: whole}, leaves(whole, 0, 1)},
		{call{op: "Holes", n: holed}, leaves(holed, 0, 1, 2)},
		{call{op: "Holes", n: many}, leaves(many, upFrom(0, 19)...)},
	}
}

// writing is calls that lay bytes into files, and cut them. A leaf of which no byte is left need not be read.
func writing() []needing {
	return []needing{
		{call{op: "Write", n: many, at: 300, s: "ab", stamp: 9}, leaves(many, 1)},
		{call{op: "Write", n: many, at: 256, s: bytes(256, 5), stamp: 9}, needs(many)},
		{call{op: "Write", n: many, at: 256, s: bytes(255, 5), stamp: 9}, leaves(many, 1)},
		{call{op: "Write", n: many, at: 257, s: bytes(255, 5), stamp: 9}, leaves(many, 1)},
		{call{op: "Write", n: many, at: 250, s: bytes(700, 5), stamp: 9}, leaves(many, 0, 3)},
		{call{op: "Write", n: many, at: 4864, s: bytes(136, 5), stamp: 9}, needs(many)},
		{call{op: "Write", n: many, at: 4864, s: bytes(135, 5), stamp: 9}, leaves(many, 19)},
		{call{op: "Write", n: many, at: 4865, s: bytes(900, 5), stamp: 9}, leaves(many, 19)},
		{call{op: "Write", n: many, at: 5119, s: "a", stamp: 9}, leaves(many, 19)},
		{call{op: "Write", n: many, at: 5120, s: "a", stamp: 9}, needs(many)},
		{call{op: "Write", n: many, at: 99999, s: "a", stamp: 9}, needs(many)},
		{call{op: "Write", n: many, s: bytes(5000, 5), stamp: 9}, needs(many)},
		{call{op: "Write", n: many, at: 300, stamp: 9}, needs(many)},
		{call{op: "Write", n: none, at: 300, s: "a", stamp: 9}, needs(none)},
		{call{op: "Write", n: many, at: -1, s: "a", stamp: 9}, needs(many)},
		{call{op: "Write", n: many, at: api.MaxFile, s: "a", stamp: 9}, needs(many)},
		{call{op: "Append", n: many, s: "ab", stamp: 9}, leaves(many, 19)},
		{call{op: "Append", n: whole, s: "ab", stamp: 9}, needs(whole)},
		{call{op: "Append", n: many, stamp: 9}, needs(many)},
		{call{op: "Append", n: many, s: zeros(api.MaxFile), stamp: 9}, needs(many)},
		{call{op: "Truncate", n: many, many: 4999, stamp: 9}, leaves(many, 19)},
		{call{op: "Truncate", n: many, many: 300, stamp: 9}, leaves(many, 1)},
		{call{op: "Truncate", n: many, many: 512, stamp: 9}, needs(many)},
		{call{op: "Truncate", n: many, stamp: 9}, needs(many)},
		{call{op: "Truncate", n: many, many: 5000, stamp: 9}, needs(many)},
		{call{op: "Truncate", n: many, many: 99999, stamp: 9}, needs(many)},
		{call{op: "Truncate", n: many, many: api.MaxFile + 1, stamp: 9}, needs(many)},
		{call{op: "Zero", n: many, at: 300, many: 10, stamp: 9}, leaves(many, 1)},
		{call{op: "Zero", n: many, at: 256, many: 512, stamp: 9}, needs(many)},
		{call{op: "Zero", n: many, at: 255, many: 514, stamp: 9}, leaves(many, 0, 3)},
		{call{op: "Zero", n: many, at: 4864, many: 136, stamp: 9}, needs(many)},
		{call{op: "Zero", n: many, at: 4865, many: math.MaxInt, stamp: 9}, leaves(many, 19)},
		{call{op: "Zero", n: many, at: 5000, many: 5, stamp: 9}, needs(many)},
		{call{op: "Zero", n: many, at: 300, stamp: 9}, needs(many)},
	}
}

// moving is calls that move bytes.
func moving() []needing {
	return []needing{
		{call{op: "Insert", n: many, at: 4100, s: "ab", stamp: 9}, leaves(many, upFrom(16, 19)...)},
		{call{op: "Insert", n: many, at: 4096, s: bytes(300, 5), stamp: 9}, leaves(many, upFrom(16, 19)...)},
		{call{op: "Insert", n: many, at: 5000, s: "ab", stamp: 9}, leaves(many, 19)},
		{call{op: "Insert", n: whole, at: 512, s: "ab", stamp: 9}, needs(whole)},
		{call{op: "Insert", n: none, s: "ab", stamp: 9}, needs(none)},
		{call{op: "Insert", n: many, at: 4100, stamp: 9}, needs(many)},
		{call{op: "Insert", n: many, at: 5001, s: "ab", stamp: 9}, needs(many)},
		{call{op: "Insert", n: many, at: 4100, s: zeros(api.MaxFile), stamp: 9}, needs(many)},
		{call{op: "Remove", n: many, at: 4100, many: 1, stamp: 9}, leaves(many, upFrom(16, 19)...)},
		{call{op: "Remove", n: many, at: 256, many: 4600, stamp: 9}, leaves(many, 18, 19)},
		{call{op: "Remove", n: many, at: 260, many: 4608, stamp: 9}, leaves(many, 1, 19)},
		{call{op: "Remove", n: many, at: 0, many: 4990, stamp: 9}, leaves(many, 19)},
		{call{op: "Remove", n: many, at: 300, many: math.MaxInt, stamp: 9}, leaves(many, 1)},
		{call{op: "Remove", n: many, at: 512, many: math.MaxInt, stamp: 9}, needs(many)},
		{call{op: "Remove", n: many, many: 5000, stamp: 9}, needs(many)},
		{call{op: "Remove", n: many, at: 5000, many: 1, stamp: 9}, needs(many)},
		{call{op: "Remove", n: many, at: 300, stamp: 9}, needs(many)},
		{call{op: "Copy", n: many, at: 300, many: 10, to: whole, place: 20, stamp: 9}, append(leaves(many, 1), leaves(whole, 0)...)},
		{call{op: "Copy", n: many, at: 300, many: 256, to: whole, place: 256, stamp: 9}, append(leaves(many, 1, 2), needs(whole)...)},
		{call{op: "Copy", n: many, at: 300, many: 10, to: many, place: 4000, stamp: 9}, leaves(many, 1, 15)},
		{call{op: "Copy", n: many, at: 5000, many: 10, to: whole, place: 20, stamp: 9}, needs(many, whole)},
		{call{op: "Copy", n: none, many: 10, to: many, place: 20, stamp: 9}, needs(none, many)},
		{call{op: "Copy", n: many, many: 10, to: none, place: 300, stamp: 9}, append(leaves(many, 0), needs(none)...)},
		{call{op: "Copy", n: many, many: 10, to: dirHere, place: 300, stamp: 9}, needs(many, dirHere)},
		// That it is too much is told ahead of what can't be read.
		{call{op: "Copy", n: many, many: 10, to: whole, place: api.MaxFile, stamp: 9}, needs(many, whole)},
		{call{op: "Copy", n: many, at: 300, many: math.MaxInt, to: whole, place: api.MaxFile - 4699, stamp: 9}, needs(many, whole)},
		{call{op: "Copy", n: many, many: 10, to: whole, place: -1, stamp: 9}, needs(many, whole)},
	}
}

// A block that was written over is told by those calls that need it, which change nothing, and by no others.
func TestBlocksWrittenOver(t *testing.T) {
	s := made(t, 256, 0)
	out, m := s.committed()
	refs := s.refs(out.Table)
	image := s.d.Image()
	for _, c := range slices.Concat(telling(), writing(), moving()) {
		for p, r := range refs {
			x, e := s.open(out.Table, out.High), maps.Clone(m)
			s.over(r.At, junk())
			got, want := c.do(x), answer{err: api.ErrTampered}
			if !slices.Contains(c.needs, p) {
				want = c.want(e)
			}
			if got != want {
				t.Errorf("%s with the block at %v written over = %s; want %s", c.brief(), p, got.brief(), want.brief())
			}
			s.d.Load(image)
			holds(t, c.brief()+", laid back", x, e)
			if want.err != api.OK {
				isNew(t, c.brief()+", which failed", x, 0)
			}
		}
		if t.Failed() {
			t.FailNow()
		}
	}
}

// isNew asks how much is new.
func isNew(t *testing.T, what string, x *inodes.Inodes, want int) {
	t.Helper()
	if n, err := x.New(); n != want || err != api.OK {
		t.Errorf("%s: New = %d, %d; want %d", what, n, err, want)
	}
}

// The blocks that a call reads are those that it needs.
func TestWhatIsRead(t *testing.T) {
	s := made(t, 256, 0)
	out, m := s.committed()
	refs := s.refs(out.Table)
	for _, c := range slices.Concat(telling(), writing(), moving()) {
		x, e := s.open(out.Table, out.High), maps.Clone(m)
		var want []uint32
		for _, p := range c.needs {
			if r, is := refs[p]; is {
				want = append(want, r.At)
			}
		}
		slices.Sort(want)
		if l := s.reads(func() { check(t, x, e, c.call) }); !slices.Equal(l, slices.Compact(want)) {
			t.Errorf("%s read the blocks %v; want %v", c.brief(), l, want)
		}
	}
}

// Without power each call tells that; where only what is kept is needed, it tells that.
func TestWithoutPower(t *testing.T) {
	for _, c := range slices.Concat(telling(), writing(), moving()) {
		s := made(t, 256, 0)
		out, m := s.committed()
		x, y := s.open(out.Table, out.High), s.open(out.Table, out.High)
		if _, err := y.All(); err != api.OK {
			t.Fatal(err)
		}
		s.dies()
		if got := c.do(x); got != (answer{err: api.ErrCut}) {
			t.Errorf("%s without power = %s; want ErrCut", c.brief(), got.brief())
		}
		e, want := maps.Clone(m), answer{err: api.ErrCut}
		if !slices.ContainsFunc(c.needs, func(p at) bool { return p.number != 0 }) {
			want = c.want(e)
		}
		if got := c.do(y); got != want {
			t.Errorf("%s without power, the table being kept = %s; want %s", c.brief(), got.brief(), want.brief())
		}
		s.d.Revive()
		holds(t, c.brief()+", with power again", x, m)
		holds(t, c.brief()+", the table kept, with power again", y, e)
	}
}

// A block of bytes where a node must be.
func TestNodesThatAreNone(t *testing.T) {
	s := made(t, 64, 0)
	const n = 1
	table := s.tableOf(api.Inode{Kind: api.KindFile, Links: 1, Size: 300, Stamp: 1, Tree: api.Tree{Height: 1, Root: s.lay(junk())}})
	for _, c := range []call{
		{op: "Read", n: n, many: 1}, {op: "Same", n: n, to: n}, {op: "Find", n: n, s: "a"}, {op: "Holes", n: n},
		{op: "Write", n: n, at: 1, s: "a", stamp: 9}, {op: "Append", n: n, s: "a", stamp: 9}, {op: "Truncate", n: n, many: 1, stamp: 9},
		{op: "Zero", n: n, at: 1, many: 1, stamp: 9}, {op: "Insert", n: n, at: 1, s: "a", stamp: 9}, {op: "Remove", n: n, many: 1, stamp: 9},
		{op: "Copy", n: n, many: 1, to: n, place: 5, stamp: 9},
	} {
		x := s.open(table, 1)
		if got := c.do(x); got != (answer{err: api.ErrNode}) {
			t.Errorf("%s = %s; want ErrNode", c.brief(), got.brief())
		}
		if i, err := x.Get(n); i != (api.Info{Number: n, Kind: api.KindFile, Links: 1, Size: 300, Stamp: 1}) || err != api.OK {
			t.Errorf("behind %s: %v, %d", c.brief(), i, err)
		}
		isNew(t, c.brief(), x, 0)
	}
}

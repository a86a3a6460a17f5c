package tree_test

import (
	"math"
	"testing"

	"signet/api"
	"signet/cache"
	"signet/tree"
)

// call is one on a tree: whether all that it answers beside the error is zero, and the error.
type call struct {
	name string
	do   func(c *cache.Cache, t api.Tree) (bool, api.Errno)
}

func leaf(place int) call {
	return call{"Leaf", func(c *cache.Cache, t api.Tree) (bool, api.Errno) {
		b, err := tree.Leaf(c, t, place)
		return b == api.Block{}, err
	}}
}

func ref(level, place int) call {
	return call{"Ref", func(c *cache.Cache, t api.Tree) (bool, api.Errno) {
		r, err := tree.Ref(c, t, level, place)
		return r == api.Ref{}, err
	}}
}

func blocks(place int) call {
	return call{"Blocks", func(c *cache.Cache, t api.Tree) (bool, api.Errno) {
		l, err := tree.Blocks(c, t, place)
		return len(l) == 0, err
	}}
}

func leaves(from, n int) call {
	return call{"Range", func(c *cache.Cache, t api.Tree) (bool, api.Errno) {
		l, err := tree.Range(c, t, from, n)
		return len(l) == 0, err
	}}
}

// whole is the calls that are about a whole tree.
func whole() []call {
	return []call{
		{"All", func(c *cache.Cache, t api.Tree) (bool, api.Errno) {
			l, err := tree.All(c, t)
			return len(l) == 0, err
		}},
		{"Count", func(c *cache.Cache, t api.Tree) (bool, api.Errno) {
			leaves, nodes, err := tree.Count(c, t)
			return leaves == 0 && nodes == 0, err
		}},
		{"Each", func(c *cache.Cache, t api.Tree) (bool, api.Errno) {
			return true, tree.Each(c, t, func(api.Pos) bool { return true })
		}},
		{"Last", func(c *cache.Cache, t api.Tree) (bool, api.Errno) {
			last, err := tree.Last(c, t)
			return last == 0, err
		}},
	}
}

func diff(a, b api.Tree) call {
	return call{"Diff", func(c *cache.Cache, _ api.Tree) (bool, api.Errno) {
		l, err := tree.Diff(c, a, b)
		return len(l) == 0, err
	}}
}

func same(a, b api.Tree) call {
	return call{"Same", func(c *cache.Cache, _ api.Tree) (bool, api.Errno) {
		is, err := tree.Same(c, a, b)
		return !is, err
	}}
}

// fails asks that a call answers an error and zero values.
func (s *stand) fails(t api.Tree, x call, want api.Errno) {
	s.t.Helper()
	if zero, err := x.do(s.c, t); !zero || err != want {
		s.t.Errorf("%s of %d %v: all else is zero: %v, %d; want %d", x.name, t.Height, t.Root, zero, err, want)
	}
}

// answers asks that a call answers no error.
func (s *stand) answers(t api.Tree, x call) {
	s.t.Helper()
	if _, err := x.do(s.c, t); err != api.OK {
		s.t.Errorf("%s of %d %v: %d", x.name, t.Height, t.Root, err)
	}
}

// notRight is trees that are not, beside a root that is.
func notRight(root api.Ref) []api.Tree {
	var l []api.Tree
	for _, height := range noHeights {
		l = append(l, api.Tree{Height: height}, api.Tree{Height: height, Root: root})
	}
	for _, r := range []api.Ref{{Sum: api.Sum{1}}, {Sum: api.Sum{31: 1}}, {Sum: api.Sum{31: 128}}, {Sum: root.Sum}} {
		for height := range 7 {
			l = append(l, api.Tree{Height: height, Root: r})
		}
		l = append(l, api.Tree{Height: -1, Root: r}, api.Tree{Height: 7, Root: r})
	}
	return l
}

// 9.2

// A tree that is not right is told ahead of a place that is not in it, and nothing is read.
func TestTreesThatAreNotRight(t *testing.T) {
	s := made(t, 0)
	g := s.grow(plan{height: 1, leaves: every(1)})
	calls := whole()
	calls = append(calls, call{"Each of nil", func(c *cache.Cache, t api.Tree) (bool, api.Errno) {
		return true, tree.Each(c, t, nil)
	}})
	for _, n := range []int{0, -1, 3, 4, 4096, math.MaxInt, math.MinInt} {
		calls = append(calls, leaf(n), blocks(n), ref(0, n), ref(n, 0), ref(n, n), leaves(n, 0), leaves(0, n), leaves(n, n), leaves(n, 1))
	}
	for _, x := range notRight(g.Root) {
		s.reads("a tree that is not right", nil, func() {
			for _, call := range calls {
				s.fails(x, call, api.ErrArg)
			}
			for _, y := range []api.Tree{g.Tree, x, {}, {Height: 6}, {Height: 7}} {
				for _, call := range []call{diff(x, y), diff(y, x), same(x, y), same(y, x)} {
					s.fails(x, call, api.ErrArg)
				}
			}
		})
	}
}

// A position that is not in a tree of a height.
func outside(height int) []at {
	l := []at{{-1, 0}, {height + 1, 0}, {-1, -1}, {height + 1, -1}, {math.MaxInt, 0}, {math.MinInt, 0}, {height + 1, 1}}
	for level := range height + 1 {
		many := capacities[height-level]
		for _, place := range []int{-1, many, -2, many + 1, -many - 1, 4 * many, 5000, math.MaxInt, math.MinInt} {
			l = append(l, at{level, place})
		}
	}
	return l
}

// none, a leaf alone, or all leaves: places that are not there are told ahead of all reading.
func TestPlacesThatAreNotInATree(t *testing.T) {
	s := made(t, 0)
	for height := range 7 {
		trees := []api.Tree{{Height: height}, {Height: height, Root: api.Ref{At: 9}}, {Height: height, Root: api.Ref{At: math.MaxUint32}}}
		for _, x := range trees {
			s.reads("a place that is not there", nil, func() {
				for _, p := range outside(height) {
					s.fails(x, ref(p[0], p[1]), api.ErrPlace)
					if p[0] == 0 {
						s.fails(x, leaf(p[1]), api.ErrPlace)
						s.fails(x, blocks(p[1]), api.ErrPlace)
						s.fails(x, leaves(p[1], 1), api.ErrPlace)
						s.fails(x, leaves(p[1], 4096), api.ErrPlace)
					}
				}
			})
		}
	}
}

func TestRangesThatAreNotInATree(t *testing.T) {
	s := made(t, 0)
	for height, many := range capacities {
		for _, x := range []api.Tree{{Height: height}, {Height: height, Root: api.Ref{At: 9}}} {
			s.reads("a range that is not there", nil, func() {
				for _, c := range []at{
					{0, -1}, {0, -2}, {many, -1}, {many - 1, -1}, {0, math.MinInt}, {many, math.MinInt}, {math.MaxInt, -1}, {math.MaxInt, math.MinInt},
					{0, many + 1}, {1, many}, {many - 1, 2}, {many, 1}, {many + 1, 0}, {many + 1, 1}, {many + 1, -1}, {math.MaxInt, 0}, {math.MaxInt, 1},
					{math.MaxInt, math.MaxInt}, {0, math.MaxInt}, {1, math.MaxInt}, {many, math.MaxInt}, {math.MaxInt - many, many + 2},
					{-1, 0}, {-1, 1}, {-1, 2}, {-1, many}, {-1, many + 1}, {-1, -1}, {-many, many}, {math.MinInt, 0}, {math.MinInt, 1}, {math.MinInt, math.MaxInt}, {math.MinInt, math.MinInt},
				} {
					s.fails(x, leaves(c[0], c[1]), api.ErrPlace)
				}
			})
		}
	}
}

// A nil cache is one without power, and of none it tells zeros.

func TestNilCacheOfNone(t *testing.T) {
	for height, many := range capacities {
		x := api.Tree{Height: height}
		for _, place := range []int{0, many - 1} {
			if b, err := tree.Leaf(nil, x, place); b != (api.Block{}) || err != api.OK {
				t.Errorf("Leaf = %v, %d", b, err)
			}
			if r, err := tree.Ref(nil, x, 0, place); r != (api.Ref{}) || err != api.OK {
				t.Errorf("Ref = %v, %d", r, err)
			}
			if l, err := tree.Blocks(nil, x, place); len(l) != 0 || err != api.OK {
				t.Errorf("Blocks = %v, %d", l, err)
			}
		}
		if l, err := tree.Range(nil, x, 0, many); len(l) != many || err != api.OK {
			t.Errorf("Range = %d, %d", len(l), err)
		}
		if l, err := tree.All(nil, x); len(l) != 0 || err != api.OK {
			t.Errorf("All = %v, %d", l, err)
		}
		if n, m, err := tree.Count(nil, x); n != 0 || m != 0 || err != api.OK {
			t.Errorf("Count = %d, %d, %d", n, m, err)
		}
		if err := tree.Each(nil, x, func(api.Pos) bool { t.Error("do was called"); return true }); err != api.OK {
			t.Errorf("Each = %d", err)
		}
		if n, err := tree.Last(nil, x); n != -1 || err != api.OK {
			t.Errorf("Last = %d, %d", n, err)
		}
		if l, err := tree.Diff(nil, x, x); len(l) != 0 || err != api.OK {
			t.Errorf("Diff = %v, %d", l, err)
		}
		if is, err := tree.Same(nil, x, x); !is || err != api.OK {
			t.Errorf("Same = %v, %d", is, err)
		}
	}
}

func TestNilCacheOfALeafAlone(t *testing.T) {
	s := &stand{t: t}
	x := api.Tree{Root: api.Ref{At: 3, Sum: api.Sum{7}}}
	s.fails(x, leaf(0), api.ErrCut)
	s.fails(x, blocks(0), api.ErrCut)
	s.fails(x, leaves(0, 1), api.ErrCut)
	// What is not read is told.
	s.answers(x, leaves(0, 0))
	if r, err := tree.Ref(nil, x, 0, 0); r != x.Root || err != api.OK {
		t.Errorf("Ref = %v, %d", r, err)
	}
	if l, err := tree.All(nil, x); len(l) != 1 || l[0] != (api.Pos{Ref: x.Root}) || err != api.OK {
		t.Errorf("All = %v, %d", l, err)
	}
	if n, m, err := tree.Count(nil, x); n != 1 || m != 0 || err != api.OK {
		t.Errorf("Count = %d, %d, %d", n, m, err)
	}
	if n, err := tree.Last(nil, x); n != 0 || err != api.OK {
		t.Errorf("Last = %d, %d", n, err)
	}
	if l, err := tree.Diff(nil, api.Tree{}, x); len(l) != 1 || err != api.OK {
		t.Errorf("Diff = %v, %d", l, err)
	}
	if is, err := tree.Same(nil, api.Tree{}, x); is || err != api.OK {
		t.Errorf("Same = %v, %d", is, err)
	}
}

func TestNilCacheOfNodes(t *testing.T) {
	s := &stand{t: t}
	for height := 1; height <= 6; height++ {
		x := api.Tree{Height: height, Root: api.Ref{At: 3, Sum: api.Sum{7}}}
		y := api.Tree{Height: height, Root: api.Ref{At: 3, Sum: api.Sum{8}}}
		for _, call := range append(whole(), leaf(0), blocks(0), ref(0, 0), ref(height-1, 3), leaves(0, 1), diff(y, x), same(y, x), diff(api.Tree{}, x), same(api.Tree{}, x), same(x, api.Tree{}), diff(x, api.Tree{Root: y.Root})) {
			s.fails(x, call, api.ErrCut)
		}
		if r, err := tree.Ref(nil, x, height, 0); r != x.Root || err != api.OK {
			t.Errorf("Ref = %v, %d", r, err)
		}
		s.answers(x, leaves(2, 0))
		s.answers(x, diff(x, x))
		s.answers(x, same(x, x))
		s.answers(x, diff(x, api.Tree{}))
		// What is wrong is told ahead of the power.
		s.fails(x, leaf(-1), api.ErrPlace)
		s.fails(x, blocks(-1), api.ErrPlace)
		s.fails(x, ref(height+1, 0), api.ErrPlace)
		s.fails(x, leaves(0, -1), api.ErrPlace)
		s.fails(x, diff(x, api.Tree{Height: 7}), api.ErrArg)
		s.fails(x, same(api.Tree{Height: 7}, x), api.ErrArg)
		if err := tree.Each(nil, x, nil); err != api.ErrArg {
			t.Errorf("Each of nil = %d", err)
		}
	}
}

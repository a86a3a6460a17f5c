package inodes_test

import (
	"math"
	"testing"

	"signet/api"
	"signet/inodes"
)

// 15.1

// highs is highest numbers with the heights of their tables, written out.
var highs = []struct{ high, height int }{
	{1, 0}, {2, 0}, {4, 0},
	{5, 1}, {16, 1},
	{17, 2}, {64, 2},
	{65, 3}, {256, 3},
	{257, 4}, {1024, 4},
	{1025, 5}, {4095, 5}, {api.MaxInodes, 5},
}

// refused asks that nothing is opened, on a cache and on none.
func (s *stand) refused(table api.Tree, high int) {
	s.t.Helper()
	if x, err := inodes.Open(s.c, table, high); x != nil || err != api.ErrArg {
		s.t.Errorf("Open(%v, %d) = %v, %d; want ErrArg", table, high, x, err)
	}
	if x, err := inodes.Open(nil, table, high); x != nil || err != api.ErrArg {
		s.t.Errorf("Open of no cache, %v, %d = %v, %d; want ErrArg", table, high, x, err)
	}
}

// Nothing is read, so any reference that is right will do.
func TestOpen(t *testing.T) {
	s := made(t, 16, 4)
	for _, h := range highs {
		for _, r := range []api.Ref{{At: 1}, {At: 9, Sum: api.Sum{1}}, {At: api.MaxBlocks}, {At: math.MaxUint32, Sum: api.Sum{31: 255}}} {
			s.quietly("Open", func() {
				x := s.open(api.Tree{Height: h.height, Root: r}, h.high)
				if n, err := x.High(); n != h.high || err != api.OK {
					t.Errorf("High = %d, %d; want %d", n, err, h.high)
				}
				s.news("as it is committed", x, 0)
			})
		}
	}
	s.quietly("Open", func() {
		x := s.empty()
		s.all(x)
		s.news("nothing", x, 0)
	})
}

func TestOpenOfAnotherHeight(t *testing.T) {
	s := made(t, 16, 4)
	ref := api.Ref{At: 3, Sum: api.Sum{7}}
	for _, h := range highs {
		for height := -1; height <= api.MaxHeight+1; height++ {
			if height != h.height {
				s.refused(api.Tree{Height: height, Root: ref}, h.high)
			}
			s.refused(api.Tree{Height: height}, h.high)
			s.refused(api.Tree{Height: height, Root: ref}, 0)
			if height != 0 {
				s.refused(api.Tree{Height: height}, 0)
			}
		}
	}
}

func TestOpenOfHighsThatMayNotBe(t *testing.T) {
	s := made(t, 16, 4)
	for _, high := range []int{-1, api.MaxInodes + 1, math.MinInt, math.MaxInt, 1 << 32, 1<<32 + 1} {
		for height := -1; height <= api.MaxHeight+1; height++ {
			s.refused(api.Tree{Height: height}, high)
			s.refused(api.Tree{Height: height, Root: api.Ref{At: 3, Sum: api.Sum{7}}}, high)
		}
	}
}

func TestOpenOfTreesThatAreNotRight(t *testing.T) {
	s := made(t, 16, 4)
	for _, sum := range []api.Sum{{1}, {31: 1}, {15: 128}} {
		for _, h := range highs {
			s.refused(api.Tree{Height: h.height, Root: api.Ref{Sum: sum}}, h.high)
		}
		s.refused(api.Tree{Root: api.Ref{Sum: sum}}, 0)
	}
	for _, height := range []int{math.MinInt, math.MaxInt, 1 << 32, 256} {
		s.refused(api.Tree{Height: height}, 0)
		s.refused(api.Tree{Height: height, Root: api.Ref{At: 1}}, 1)
	}
}

// On no cache there is what was made, and no power for what must be read.
func TestNilCache(t *testing.T) {
	s := made(t, 16, 4)
	x, err := inodes.Open(nil, api.Tree{}, 0)
	s.ok(err)
	s.make(x, dir)
	s.make(x, file)
	s.ok(x.Resize(2, 300, 5), x.Set(2, 1, full(1), 6))
	s.info(x, api.Info{Number: 2, Kind: file, Links: 1, Size: 300, Stamp: 6})
	s.leaf(x, 2, 1, upTo(full(1), 44))
	s.leaf(x, 2, 0, api.Block{})
	s.news("on no cache", x, 3)
	s.all(x, 1, 2)
	if out := s.out(x); len(out.Writes) != 3 || len(out.Let) != 0 || out.High != 2 {
		t.Errorf("Out has %d writes, lets %v go, High %d", len(out.Writes), out.Let, out.High)
	}

	for _, h := range highs {
		x, err := inodes.Open(nil, api.Tree{Height: h.height, Root: api.Ref{At: 3, Sum: api.Sum{7}}}, h.high)
		s.ok(err)
		s.failsAll(x, 1, api.ErrCut)
		if n, err := x.High(); n != h.high || err != api.OK {
			t.Errorf("High = %d, %d; want %d", n, err, h.high)
		}
		s.news("on no cache", x, 0)
	}
}

// failsAll asks that all calls about an inode that can't be read tell that, and no other answer.
func (s *stand) failsAll(x *inodes.Inodes, n int, want api.Errno) {
	s.t.Helper()
	if i, err := x.Get(n); i != (api.Info{}) || err != want {
		s.t.Errorf("Get(%d) = %v, %d; want %d", n, i, err, want)
	}
	if b, err := x.Leaf(n, 0); b != (api.Block{}) || err != want {
		s.t.Errorf("Leaf(%d, 0) = %v, %d; want %d", n, brief(b), err, want)
	}
	for name, err := range map[string]api.Errno{
		"Links":  x.Links(n, 1, 9),
		"Resize": x.Resize(n, 64, 9),
		"Drop":   x.Drop(n),
		"Set":    x.Set(n, 0, full(9), 9),
		"Touch":  x.Touch(n, 9),
	} {
		if err != want {
			s.t.Errorf("%s of %d = %d; want %d", name, n, err, want)
		}
	}
	if n, err := x.Make(file, 9); n != 0 || err != want {
		s.t.Errorf("Make = %d, %d; want %d", n, err, want)
	}
	if l, err := x.All(); len(l) != 0 || err != want {
		s.t.Errorf("All = %v, %d; want %d", l, err, want)
	}
}

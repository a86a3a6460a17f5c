package inodes_test

import (
	"math"
	"testing"

	"signet/api"
	"signet/inodes"
)

// 15.3

// noKinds is kinds that nothing is made of.
var noKinds = []int{-1, 0, 3, 4, 257, 258, math.MinInt, math.MaxInt, 1<<32 + 1}

// bys is by how many links may change.
var bys = []int{0, 1, -1, 2, -2, 998, 999, 1000, 1001, -998, -999, -1000, -1001, math.MinInt, math.MinInt + 1, math.MaxInt, math.MaxInt - 1}

func TestMake(t *testing.T) {
	each(t, func(s *stand, x *inodes.Inodes, m *model) {
		for _, stamp := range []uint64{0, 1, 1 << 63, math.MaxUint64} {
			for _, kind := range []int{file, dir} {
				n, err := x.Make(kind, stamp)
				if want, _ := m.mk(kind, stamp); n != want || err != api.OK {
					t.Fatalf("Make = %d, %d; want %d", n, err, want)
				}
				s.info(x, api.Info{Number: n, Kind: kind, Links: 1, Stamp: stamp})
			}
		}
		s.holds("made", x, m)
		for _, kind := range noKinds {
			if n, err := x.Make(kind, 9); n != 0 || err != api.ErrArg {
				t.Errorf("Make(%d) = %d, %d; want ErrArg", kind, n, err)
			}
		}
		s.holds("not made", x, m)
	})
}

// The least number that is free is taken, wherever it lies.
func TestMakeFillsWhatIsFree(t *testing.T) {
	each(t, func(s *stand, x *inodes.Inodes, m *model) {
		for range 12 {
			s.make(x, file)
			m.mk(file, 1)
		}
		for _, free := range [][]int{{1}, {5}, {12}, {4, 5}, {9, 2, 7}, {8, 7, 6, 5}} {
			for _, n := range free {
				s.ok(x.Drop(n), m.drop(n))
			}
			s.holds("some are free", x, m)
			for range len(free) + 1 {
				n, err := x.Make(dir, 5)
				if want, _ := m.mk(dir, 5); n != want || err != api.OK {
					t.Errorf("Make = %d, %d; want %d", n, err, want)
				}
			}
			s.holds("all are in use", x, m)
		}
	})
}

// What is made by a number that was in use has nothing of what was there.
func TestMadeAgainIsEmpty(t *testing.T) {
	s := made(t, 512, 8)
	x, _ := s.committed()
	s.ok(x.Links(3, 9, 9), x.Drop(3))
	if n, err := x.Make(dir, 7); n != 3 || err != api.OK {
		t.Fatalf("Make = %d, %d", n, err)
	}
	s.info(x, api.Info{Number: 3, Kind: dir, Links: 1, Stamp: 7})
	s.ok(x.Resize(3, 5056, 8))
	for place := range 21 {
		s.leaf(x, 3, place, api.Block{})
	}
	x, _ = s.commit(x)
	s.info(x, api.Info{Number: 3, Kind: dir, Links: 1, Size: 5056, Stamp: 8})
	for place := range 21 {
		s.leaf(x, 3, place, api.Block{})
	}
}

func TestLinks(t *testing.T) {
	each(t, func(s *stand, x *inodes.Inodes, m *model) {
		n := s.make(x, file)
		m.mk(file, 1)
		for _, links := range []int{1, 2, 500, 999, 1000} {
			by := links - m.now[n].Links
			s.ok(x.Links(n, by, 4), m.links(n, by, 4))
			for _, by := range bys {
				y, e := x.Clone(), m.clone()
				if err, want := y.Links(n, by, 6), e.links(n, by, 6); err != want {
					t.Errorf("Links by %d of %d = %d; want %d", by, links, err, want)
				}
				s.info(y, e.now[n].Info)
			}
		}
		s.holds("links", x, m)
	})
}

func TestLinksWrittenOut(t *testing.T) {
	s := made(t, 16, 8)
	x := s.empty()
	s.make(x, dir)
	s.make(x, file)
	links := func(n, by int, stamp uint64, want api.Errno) {
		t.Helper()
		if err := x.Links(n, by, stamp); err != want {
			t.Errorf("Links(%d, %d) = %d; want %d", n, by, err, want)
		}
	}
	links(2, -1, 2, api.ErrLinks)
	links(2, 1000, 3, api.ErrLinks)
	s.info(x, api.Info{Number: 2, Kind: file, Links: 1, Stamp: 1})
	links(2, 999, 4, api.OK)
	s.info(x, api.Info{Number: 2, Kind: file, Links: 1000, Stamp: 4})
	links(2, 1, 5, api.ErrLinks)
	links(2, -1000, 5, api.ErrLinks)
	links(2, math.MaxInt, 5, api.ErrLinks)
	links(2, math.MinInt, 5, api.ErrLinks)
	links(2, 0, 6, api.OK)
	s.info(x, api.Info{Number: 2, Kind: file, Links: 1000, Stamp: 6})
	links(2, -999, 7, api.OK)
	s.info(x, api.Info{Number: 2, Kind: file, Links: 1, Stamp: 7})
	for _, by := range bys {
		if by != 0 {
			links(1, by, 8, api.ErrLinks)
		}
	}
	s.info(x, api.Info{Number: 1, Kind: dir, Links: 1, Stamp: 1})
	links(1, 0, 9, api.OK)
	s.info(x, api.Info{Number: 1, Kind: dir, Links: 1, Stamp: 9})
}

func TestTouch(t *testing.T) {
	each(t, func(s *stand, x *inodes.Inodes, m *model) {
		for n := range m.now {
			for _, stamp := range []uint64{0, 9, math.MaxUint64} {
				s.ok(x.Touch(n, stamp), m.touch(n, stamp))
				s.info(x, m.now[n].Info)
			}
		}
		s.holds("touched", x, m)
	})
}

func TestDrop(t *testing.T) {
	each(t, func(s *stand, x *inodes.Inodes, m *model) {
		for _, n := range []int{3, 1, 6, 5, 2, 4} {
			if _, is := m.now[n]; !is {
				continue
			}
			s.ok(x.Drop(n), m.drop(n))
			if err := x.Drop(n); err != api.ErrNone {
				t.Errorf("Drop of %d once more = %d; want ErrNone", n, err)
			}
			s.holds("dropped", x, m)
			s.lays("dropped", x, m)
		}
	})
}

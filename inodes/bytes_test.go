package inodes_test

import (
	"math"
	"slices"
	"testing"

	"signet/api"
	"signet/inodes"
)

// 15.4

// sizes is sizes that an inode may have, a directory's among them.
var sizes = []int{0, 1, 63, 64, 65, 128, 255, 256, 257, 300, 320, 1023, 1024, 1025, 1088, 4096, 4097, 5000, 16385, 65536, 262145, 1048512, 1048575, api.MaxFile}

// noSizes is sizes that none may have.
var noSizes = []int{-1, api.MaxFile + 1, api.MaxFile + 64, math.MinInt, math.MaxInt, math.MinInt + 64, 1 << 32, 1<<32 + 64, -64, -256}

func TestResize(t *testing.T) {
	each(t, func(s *stand, x *inodes.Inodes, m *model) {
		for n := range m.clone().now {
			for _, size := range sizes {
				y, e := x.Clone(), m.clone()
				if err, want := y.Resize(n, size, 9), e.resize(n, size, 9); err != want {
					t.Errorf("Resize(%d, %d) = %d; want %d", n, size, err, want)
				}
				s.holds("another size", y, e)
				s.lays("another size", y, e)
				back := m.now[n].Size
				s.ok(y.Resize(n, back, 8), e.resize(n, back, 8))
				s.holds("the old size", y, e)
				s.lays("the old size", y, e)
			}
			for _, size := range noSizes {
				if err := x.Resize(n, size, 9); err != api.ErrArg {
					t.Errorf("Resize(%d, %d) = %d; want ErrArg", n, size, err)
				}
			}
		}
		s.holds("behind sizes that none may have", x, m)
	})
}

// A directory has whole entries.
func TestResizeOfADirectory(t *testing.T) {
	s := made(t, 512, 8)
	x, m := s.committed()
	for size := range 1000 {
		want := api.OK
		if size%64 != 0 {
			want = api.ErrArg
		}
		if err := x.Clone().Resize(1, size, 9); err != want {
			t.Errorf("Resize to %d = %d; want %d", size, err, want)
		}
	}
	for _, size := range []int{api.MaxFile - 1, 1048513, 1000001} {
		if err := x.Resize(1, size, 9); err != api.ErrArg {
			t.Errorf("Resize to %d = %d; want ErrArg", size, err)
		}
	}
	s.holds("behind sizes that no directory has", x, m)
	s.ok(x.Resize(1, api.MaxFile, 9), m.resize(1, api.MaxFile, 9))
	s.holds("the greatest one", x, m)
	// One that is not in use is no directory.
	s.ok(x.Drop(1))
	if err := x.Resize(1, 65, 9); err != api.ErrNone {
		t.Errorf("Resize = %d; want ErrNone", err)
	}
}

// Bytes that were cut away and come again are zero, in the leaf that is cut and in all behind it.
func TestBytesThatComeAgain(t *testing.T) {
	for _, kept := range []bool{false, true} {
		for _, cut := range []int{0, 1, 100, 255, 256, 257, 511, 512, 700, 1023, 1024, 1025, 1279} {
			s := made(t, 64, 8)
			x, m := s.empty(), fresh()
			s.make(x, file)
			m.mk(file, 1)
			s.ok(x.Resize(1, 1280, 2), m.resize(1, 1280, 2))
			for place := range 5 {
				s.ok(x.Set(1, place, full(place+1), 2), m.set(1, place, full(place+1), 2))
			}
			if kept {
				x, m = s.commits("all bytes", x, m)
			}
			s.ok(x.Resize(1, cut, 2), m.resize(1, cut, 2))
			s.ok(x.Resize(1, 1280, 2), m.resize(1, 1280, 2))
			for place := range 5 {
				s.leaf(x, 1, place, upTo(full(place+1), min(max(cut-256*place, 0), 256)))
			}
			s.holds("bytes that came again", x, m)
			x, m = s.commits("bytes that came again", x, m)
			s.holds("and were committed", x, m)
		}
	}
}

// A size that grows asks for no bytes: they need not be read.
func TestGrowingReadsNoBytes(t *testing.T) {
	s := made(t, 512, 0)
	x, m := s.committed()
	x.Get(3)
	s.quietly("Resize", func() { s.ok(x.Resize(3, 5001, 9), x.Resize(3, 100000, 9), x.Resize(3, 5120, 9)) })
	s.ok(m.resize(3, 5120, 9))
	s.holds("grown", x, m)
}

func TestSet(t *testing.T) {
	each(t, func(s *stand, x *inodes.Inodes, m *model) {
		for n, it := range m.clone().now {
			behind := (it.Size + 255) / 256
			for place := range behind {
				for i, b := range []api.Block{full(50), {}, it.leaves[place], {255: 1}, full(51)} {
					stamp := uint64(10 + i)
					s.ok(x.Set(n, place, b, stamp), m.set(n, place, b, stamp))
					s.leaf(x, n, place, upTo(b, min(256, it.Size-256*place)))
					s.info(x, m.now[n].Info)
				}
			}
			for _, place := range []int{behind, behind + 1, 20, 100, 4095} {
				if err := x.Set(n, place, full(60), 99); err != api.ErrPlace {
					t.Errorf("Set(%d, %d) = %d; want ErrPlace", n, place, err)
				}
			}
			s.holds("set", x, m)
			s.lays("set", x, m)
		}
	})
}

// What is behind the size in the last leaf is zero, however much is handed in.
func TestSetBehindTheSize(t *testing.T) {
	s := made(t, 16, 8)
	x, m := s.empty(), fresh()
	s.make(x, file)
	m.mk(file, 1)
	for size := 1; size <= 513; size++ {
		s.ok(x.Resize(1, size, 1), m.resize(1, size, 1))
		last := (size - 1) / 256
		s.ok(x.Set(1, last, full(9), 1), m.set(1, last, full(9), 1))
		s.leaf(x, 1, last, upTo(full(9), size-256*last))
		s.ok(x.Resize(1, 600, 1))
		s.leaf(x, 1, last, upTo(full(9), size-256*last))
		s.ok(x.Resize(1, size, 1))
		s.leaf(x, 1, last, upTo(full(9), size-256*last))
	}
	s.holds("all sizes", x, m)
}

// What was handed in is the caller's own.
func TestSetKeepsACopy(t *testing.T) {
	s := made(t, 16, 8)
	x := s.empty()
	s.make(x, file)
	b := full(1)
	s.ok(x.Resize(1, 256, 1), x.Set(1, 0, b, 1))
	b[3] = 99
	got, _ := x.Leaf(1, 0)
	got[4] = 99
	s.leaf(x, 1, 0, full(1))
}

// The greatest file: its first and last leaf, and all of them.
func TestGreatestFile(t *testing.T) {
	s := made(t, api.MaxBlocks, api.MaxCache)
	x := s.empty()
	s.make(x, file)
	s.ok(x.Resize(1, api.MaxFile, 1))
	s.news("zeros", x, 1)
	s.ok(x.Set(1, 4095, full(4095), 1))
	s.news("its last leaf", x, 8)
	s.ok(x.Set(1, 0, full(1), 1))
	s.news("its first leaf, too", x, 8+6)
	if err := x.Set(1, 4096, full(1), 1); err != api.ErrPlace {
		t.Errorf("Set = %d; want ErrPlace", err)
	}
	for place := range 4096 {
		s.ok(x.Set(1, place, full(place), 1))
	}
	s.news("all leaves", x, 4096+1365+1)
	x, out := s.commit(x)
	if len(out.Writes) != 5462 || len(out.Let) != 0 {
		t.Errorf("%d writes, %d are let go", len(out.Writes), len(out.Let))
	}
	s.info(x, api.Info{Number: 1, Kind: file, Links: 1, Size: api.MaxFile, Stamp: 1})
	for place := range 4096 {
		s.leaf(x, 1, place, full(place))
	}
	s.ok(x.Resize(1, api.MaxFile-1, 1))
	s.leaf(x, 1, 4095, upTo(full(4095), 255))
	s.news("a byte less", x, 8)
	s.ok(x.Drop(1))
	s.news("dropped", x, 0)
	// The old blocks are told rising, each once, and there is nothing in their place.
	out = s.out(x)
	if len(out.Let) != 5462 || !slices.IsSorted(out.Let) || len(slices.Compact(out.Let)) != 5462 || len(out.Writes) != 0 || out.Table != (api.Tree{}) || out.High != 0 {
		t.Errorf("%d are let go, %d writes, %v, %d", len(out.Let), len(out.Writes), out.Table, out.High)
	}
}

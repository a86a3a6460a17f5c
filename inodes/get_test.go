package inodes_test

import (
	"slices"
	"testing"

	"signet/api"
	"signet/inodes"
)

// 15.2

// each does something with each kind of inodes that there are here: without any, with some that are not committed, and with these committed.
func each(t *testing.T, do func(s *stand, x *inodes.Inodes, m *model)) {
	t.Helper()
	s := made(t, 512, 8)
	do(s, s.empty(), fresh())
	s = made(t, 512, 8)
	x, m := s.some()
	do(s, x, m)
	s = made(t, 512, 0)
	x, m = s.committed()
	do(s, x, m)
}

func TestWhatIsThere(t *testing.T) {
	each(t, func(s *stand, x *inodes.Inodes, m *model) { s.holds("as it is", x, m) })
	s := made(t, 512, 8)
	x, _ := s.committed()
	s.all(x, 1, 2, 3, 4, 5, 6)
	s.info(x, api.Info{Number: 1, Kind: dir, Links: 1, Size: 192, Stamp: 5})
	s.info(x, api.Info{Number: 2, Kind: file, Links: 1, Size: 0, Stamp: 4})
	s.info(x, api.Info{Number: 3, Kind: file, Links: 1, Size: 5000, Stamp: 5})
	s.leaf(x, 1, 0, upTo(full(1), 192))
	s.leaf(x, 2, 0, api.Block{})
	s.leaf(x, 3, 0, full(1))
	s.leaf(x, 3, 7, api.Block{})
	s.leaf(x, 3, 19, upTo(full(20), 5000-19*256))
	s.leaf(x, 3, 20, api.Block{})
	s.leaf(x, 3, 4095, api.Block{})
	s.leaf(x, 5, 1, upTo(full(2), 44))
}

func TestNumbersThatNoInodeHas(t *testing.T) {
	each(t, func(s *stand, x *inodes.Inodes, m *model) {
		for _, n := range noNumbers {
			s.quietly("a number that none has", func() { s.fails(x, n, api.ErrNumber) })
		}
		s.holds("behind such numbers", x, m)
	})
}

// fails asks that all calls about a number tell an error, and no other answer, with arguments that are right and with others.
func (s *stand) fails(x *inodes.Inodes, n int, want api.Errno) {
	s.t.Helper()
	if i, err := x.Get(n); i != (api.Info{}) || err != want {
		s.t.Errorf("Get(%d) = %v, %d; want %d", n, i, err, want)
	}
	if err := x.Drop(n); err != want {
		s.t.Errorf("Drop(%d) = %d; want %d", n, err, want)
	}
	if err := x.Touch(n, 9); err != want {
		s.t.Errorf("Touch(%d) = %d; want %d", n, err, want)
	}
	for _, by := range bys {
		if err := x.Links(n, by, 9); err != want {
			s.t.Errorf("Links(%d, %d) = %d; want %d", n, by, err, want)
		}
	}
	for _, size := range sizes {
		if err := x.Resize(n, size, 9); err != want {
			s.t.Errorf("Resize(%d, %d) = %d; want %d", n, size, err, want)
		}
	}
	for _, place := range []int{0, 1, 4095} {
		s.failsAt(x, n, place, want)
	}
	// Of what is no number that is told ahead of all else; else what is wrong for all numbers is.
	first := func(other api.Errno) api.Errno {
		if want == api.ErrNumber {
			return want
		}
		return other
	}
	for _, size := range noSizes {
		if err := x.Resize(n, size, 9); err != first(api.ErrArg) {
			s.t.Errorf("Resize(%d, %d) = %d; want %d", n, size, err, first(api.ErrArg))
		}
	}
	for _, place := range noPlaces {
		s.failsAt(x, n, place, first(api.ErrPlace))
	}
}

// failsAt asks that the calls about a leaf tell an error, and no other answer.
func (s *stand) failsAt(x *inodes.Inodes, n, place int, want api.Errno) {
	s.t.Helper()
	if b, err := x.Leaf(n, place); b != (api.Block{}) || err != want {
		s.t.Errorf("Leaf(%d, %d) = %v, %d; want %d", n, place, brief(b), err, want)
	}
	if err := x.Set(n, place, full(9), 9); err != want {
		s.t.Errorf("Set(%d, %d) = %d; want %d", n, place, err, want)
	}
}

func TestNumbersThatAreNotInUse(t *testing.T) {
	each(t, func(s *stand, x *inodes.Inodes, m *model) {
		for _, n := range []int{m.now.high() + 1, m.now.high() + 2, m.now.high() + 3, 17, 1024, api.MaxInodes - 1, api.MaxInodes} {
			s.fails(x, n, api.ErrNone)
		}
		s.holds("behind such numbers", x, m)
		for n := range m.now.clone() {
			s.ok(x.Drop(n), m.drop(n))
			s.fails(x, n, api.ErrNone)
			s.holds("dropped", x, m)
		}
		s.all(x)
	})
}

func TestPlacesThatNoInodeHas(t *testing.T) {
	each(t, func(s *stand, x *inodes.Inodes, m *model) {
		for n := range m.now {
			for _, place := range noPlaces {
				s.failsAt(x, n, place, api.ErrPlace)
			}
		}
		s.holds("behind such places", x, m)
	})
}

// What All tells is the caller's own.
func TestAllIsNew(t *testing.T) {
	s := made(t, 512, 8)
	x, _ := s.committed()
	l, _ := x.All()
	for i := range cap(l) {
		l[:cap(l)][i] = 77
	}
	s.all(x, 1, 2, 3, 4, 5, 6)
}

// The highest number is known at once, and sought when it is gone.
func TestHigh(t *testing.T) {
	s := made(t, 512, 8)
	x, _ := s.committed()
	high := func(want int) {
		t.Helper()
		if n, err := x.High(); n != want || err != api.OK {
			t.Errorf("High = %d, %d; want %d", n, err, want)
		}
	}
	s.quietly("High", func() { high(6) })
	s.ok(x.Drop(5))
	high(6)
	s.ok(x.Drop(6))
	high(4)
	s.ok(x.Drop(4), x.Drop(3), x.Drop(1))
	high(2)
	s.ok(x.Drop(2))
	high(0)
	for want := range numbers(9) {
		s.make(x, file)
		high(want)
	}
}

// All numbers may be in use, and be committed.
func TestAllNumbersInUse(t *testing.T) {
	s := made(t, api.MaxBlocks, api.MaxCache)
	x := s.empty()
	all := slices.Collect(numbers(api.MaxInodes))
	for _, want := range all {
		if n := s.make(x, file); n != want {
			t.Fatalf("Make = %d; want %d", n, want)
		}
	}
	full := func() {
		t.Helper()
		s.all(x, all...)
		for _, kind := range []int{file, dir} {
			if n, err := x.Make(kind, 7); n != 0 || err != api.ErrInodes {
				t.Errorf("Make = %d, %d; want ErrInodes", n, err)
			}
		}
		for _, kind := range noKinds {
			if n, err := x.Make(kind, 7); n != 0 || err != api.ErrArg {
				t.Errorf("Make(%d) = %d, %d; want ErrArg", kind, n, err)
			}
		}
		s.all(x, all...)
	}
	full()
	s.news("all", x, 1024+256+64+16+4+1)
	x, out := s.commit(x)
	if out.High != api.MaxInodes || out.Table.Height != 5 || len(out.Writes) != 1365 {
		t.Errorf("High = %d, Height = %d, %d writes", out.High, out.Table.Height, len(out.Writes))
	}
	full()
	s.news("committed", x, 0)
	s.info(x, api.Info{Number: api.MaxInodes, Kind: file, Links: 1, Stamp: 1})
	for _, free := range []int{api.MaxInodes, 1, 2000} {
		s.ok(x.Drop(free))
		if n, err := x.Make(dir, 8); n != free || err != api.OK {
			t.Errorf("Make = %d, %d; want %d", n, err, free)
		}
		full()
		s.info(x, api.Info{Number: free, Kind: dir, Links: 1, Stamp: 8})
	}
	s.news("three in three leaves", x, 3*5+1)
}

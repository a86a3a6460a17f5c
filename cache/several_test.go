package cache_test

import (
	"slices"
	"testing"

	"signet/api"
)

// getsAll asks that GetAll answers these blocks, and what else it does.
func (s stand) getsAll(l []api.Ref, want []api.Block, more change) {
	s.t.Helper()
	held := slices.Clone(l)
	s.does("GetAll", more, func() {
		s.t.Helper()
		if got, place, err := s.c.GetAll(l); !slices.Equal(got, want) || place != 0 || err != api.OK {
			s.t.Errorf("GetAll(%v) = %v, %d, %d", l, got, place, err)
		}
	})
	if !slices.Equal(l, held) {
		s.t.Errorf("GetAll changed %v to %v", held, l)
	}
}

// failsAll asks that GetAll answers nothing, a place and an error, and what else it does.
func (s stand) failsAll(l []api.Ref, at int, e api.Errno, more change) {
	s.t.Helper()
	s.does("GetAll", more, func() {
		s.t.Helper()
		if got, place, err := s.c.GetAll(l); len(got) != 0 || place != at || err != e {
			s.t.Errorf("GetAll(%v) = %v, %d, %d; want nothing, %d, %d", l, got, place, err, at, e)
		}
	})
}

// 8.7

func TestGetAll(t *testing.T) {
	s, l := filled(t, 9, 4)
	s.getsAll(nil, nil, change{})
	s.getsAll([]api.Ref{}, nil, change{})
	s.getsAll([]api.Ref{{}}, []api.Block{{}}, change{})
	s.has(l...)
	// Entries are used in the order of the list.
	s.getsAll([]api.Ref{l[2], {}, l[0]}, []api.Block{full(3), {}, full(1)}, change{counts: api.Cached{Hits: 2}})
	s.has(l[1], l[3], l[2], l[0])
	s.getsAll([]api.Ref{l[1], l[1]}, []api.Block{full(2), full(2)}, change{counts: api.Cached{Hits: 2}})
	s.has(l[3], l[2], l[0], l[1])
	// The same one twice is read raw once, where there is room.
	s.c.Clear()
	s.getsAll([]api.Ref{l[1], l[1], l[3], l[1]}, []api.Block{full(2), full(2), full(4), full(2)}, change{ops: 2, counts: api.Cached{Hits: 2, Reads: 2}})
	s.has(l[3], l[1])
}

func TestGetAllWithLittleRoom(t *testing.T) {
	s, l := filled(t, 0, 3)
	s.getsAll([]api.Ref{l[1], l[1]}, []api.Block{full(2), full(2)}, change{ops: 2, counts: api.Cached{Reads: 2}})
	s.has()
	s.c.Shrink(1)
	s.getsAll([]api.Ref{l[0], l[0], l[1], l[0]}, []api.Block{full(1), full(1), full(2), full(1)}, change{ops: 3, counts: api.Cached{Hits: 1, Reads: 3}})
	s.has(l[0])
}

// A bad one first, in the midst and last: those ahead of it are got, those behind it are not.
func TestGetAllWithABadOne(t *testing.T) {
	for at := range 4 {
		for _, c := range []struct {
			bad  api.Ref
			raw  bool
			what string
		}{
			{ref(3, full(99)), true, "another digest"},
			{api.Ref{At: 16, Sum: api.Sum{1}}, false, "no block"},
			{api.Ref{Sum: api.Sum{1}}, false, "the number 0"},
		} {
			s, l := filled(t, 9, 4)
			s.c.Clear()
			list := slices.Clone(l)
			list[at] = c.bad
			want := change{ops: at, counts: api.Cached{Reads: at}}
			if c.raw {
				want.ops++
				want.counts.Reads++
				want.counts.Bad++
			}
			s.failsAll(list, at, api.ErrTampered, want)
			s.has(l[:at]...)
			// The first of two is told.
			list[3] = c.bad
			place := min(at, 3)
			if _, got, err := s.c.GetAll(list); got != place || err != api.ErrTampered {
				t.Errorf("%s: place %d, %d; want %d", c.what, got, err, place)
			}
		}
	}
}

func TestGetAllWithoutPower(t *testing.T) {
	s, l := filled(t, 9, 4)
	s.c.Forget(3)
	dies(s)
	s.getsAll([]api.Ref{l[3], {}, l[0]}, []api.Block{full(4), {}, full(1)}, change{counts: api.Cached{Hits: 2}})
	s.failsAll([]api.Ref{l[3], l[1], l[2], l[0]}, 2, api.ErrCut, change{counts: api.Cached{Hits: 2}})
	s.failsAll([]api.Ref{l[2]}, 0, api.ErrCut, change{})
	s.has(l[0], l[3], l[1])
}

func TestTheBlocksAreTheCallersOwn(t *testing.T) {
	s, l := filled(t, 9, 3)
	first, _, _ := s.c.GetAll(l)
	second, _, _ := s.c.GetAll(l)
	for n := range first[:cap(first)] {
		first[:cap(first)][n] = full(77)
	}
	want := []api.Block{full(1), full(2), full(3)}
	if !slices.Equal(second, want) {
		t.Error("two answers share memory")
	}
	s.getsAll(l, want, change{counts: api.Cached{Hits: 3}})
	// What lies behind the list's end is left as it is.
	long := append(slices.Clone(l), api.Ref{At: 5})
	s.getsAll(long[:2], want[:2], change{counts: api.Cached{Hits: 2}})
	if long[2] != l[2] || long[3] != (api.Ref{At: 5}) {
		t.Errorf("behind the list's end there is %v", long[2:])
	}
}

// sweeps asks what Sweep takes out, and what else it does.
func (s stand) sweeps(want []api.Ref, more change) {
	s.t.Helper()
	s.does("Sweep", more, func() {
		s.t.Helper()
		if got, err := s.c.Sweep(); !slices.Equal(got, want) || err != api.OK {
			s.t.Errorf("Sweep() = %v, %d; want %v", got, err, want)
		}
	})
}

func TestSweepOfNothing(t *testing.T) {
	s := made(t, 3)
	s.sweeps(nil, change{})
	dies(s)
	s.sweeps(nil, change{}) // none is checked, so none tells ErrCut
}

// Each choice of blocks that were written over.
func TestSweep(t *testing.T) {
	for choice := range 16 {
		s, l := filled(t, 4, 4)
		s.c.Get(l[1])
		order := []api.Ref{l[0], l[2], l[3], l[1]}
		var gone, left []api.Ref
		var logged []api.Block
		for _, r := range order {
			if choice>>(r.At-1)&1 == 0 {
				left = append(left, r)
				continue
			}
			gone = append(gone, r)
			s.lay(int(r.At), full(int(r.At)+50))
			logged = append(logged, full(int(r.At)+50))
		}
		s.sweeps(gone, change{4, logged, api.Cached{Reads: 4, Bad: len(gone)}})
		s.has(left...)
		for _, r := range gone {
			if s.c.Has(r) {
				t.Errorf("Has(%v) = true behind Sweep", r)
			}
			s.fails(r, api.ErrTampered, bad())
		}
		s.sweeps(nil, change{ops: len(left), counts: api.Cached{Reads: len(left)}})
		// There is room again for those that are gone, and no more.
		for n := range len(gone) + 1 {
			left = append(left, s.puts(9, full(90+n), wrote(full(90+n))))
		}
		s.has(left[1:]...)
	}
}

// Two entries of one number: at most one of them is what the disk says.
func TestSweepOfOneNumber(t *testing.T) {
	s := made(t, 4)
	first := s.puts(3, full(1), wrote(full(1)))
	second := s.puts(3, full(2), wrote(full(2)))
	third := s.puts(3, full(3), wrote(full(3)))
	s.lay(3, full(2))
	s.sweeps([]api.Ref{first, third}, change{ops: 3, counts: api.Cached{Reads: 3, Bad: 2}})
	s.has(second)
}

func TestSweepWithoutPower(t *testing.T) {
	s, l := filled(t, 4, 4)
	s.lay(2, full(50))
	dies(s)
	s.does("Sweep", change{}, func() {
		if got, err := s.c.Sweep(); len(got) != 0 || err != api.ErrCut {
			t.Errorf("Sweep() = %v, %d", got, err)
		}
	})
	s.has(l...)
	s.gets(l[1], full(2), hit())
	s.d.Revive()
	s.sweeps(l[1:2], change{4, []api.Block{full(50)}, api.Cached{Reads: 4, Bad: 1}})
	s.has(l[0], l[2], l[3])
}

// The adversary may strike between any two raw steps of a Sweep: what lay there when it was read is what counts.
func TestSweepAmidAnAdversary(t *testing.T) {
	for strike := range 4 {
		s, l := filled(t, 4, 4)
		s.d.Plan([]api.Step{{Op: 4 + strike, Kind: api.StepAll, At: 0, Back: 0}})
		s.sweeps(l[strike:], change{4, []api.Block{{}}, api.Cached{Reads: 4, Bad: 4 - strike}})
		s.has(l[:strike]...)
	}
}

func TestTheSweptAreTheCallersOwn(t *testing.T) {
	s, l := filled(t, 6, 5)
	s.lay(1, full(50))
	s.lay(3, full(50))
	s.lay(4, full(50))
	got, _ := s.c.Sweep()
	if !slices.Equal(got, []api.Ref{l[0], l[2], l[3]}) {
		t.Errorf("Sweep() = %v", got)
	}
	for n := range got[:cap(got)] {
		got[:cap(got)][n] = api.Ref{At: 99}
	}
	s.has(l[1], l[4])
}

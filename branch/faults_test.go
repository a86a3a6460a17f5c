package branch_test

import (
	"fmt"
	"slices"
	"testing"

	"signet/api"
	"signet/inodes"
)

// thicket is a tree of which directories of several leaves, with nodes above them, are in use, files with bytes, and a table with nodes.
func thicket() model {
	m := plant("/d/", "/d/e/", "/d/e/f", "/f", "/empty/", "/again = /d/e/f", "/far/", "/far/g", "/d/e/k/", "/d/e/k/l")
	for i := range 18 {
		m.grow(fmt.Sprintf("/far/n%02d", i*7%18))
	}
	for i := range 3 {
		m.grow(fmt.Sprintf("/d/m%d/", i))
		m.grow(fmt.Sprintf("/d/m%d/x", i))
	}
	return m
}

// needing is calls of all kinds for such a tree, right ones and wrong ones.
func needing() []call {
	l := []call{
		{op: "Begin"},
		from("Link", "/f", "/far/l"), from("Link", "/d/e/f", "/l"), from("Link", "/far/n03", "/d/e/l"), from("Link", "/d", "/l"), from("Link", "/f", "/far/n17"), from("Link", "/f", "/l/"),
		from("Rename", "/f", "/far/r"), from("Rename", "/d", "/r"), from("Rename", "/far/n00", "/far/n17"), from("Rename", "/far/n17", "/far/n00"), from("Rename", "/far/n05", "/far/r"), from("Rename", "/d/m1/x", "/d/e/f"), from("Rename", "/d/e", "/empty"),
		from("Rename", "/d/e", "/d/e/k/r"), from("Rename", "/again", "/d/e/f"), from("Rename", "/f", "/d"), from("Rename", "/empty", "/f"), from("Rename", "/empty", "/far"), from("Rename", "/f", "/far/n04").with(13), from("Rename", "/missing", "/r"), from("Rename", "/far/g", "/f"),
		from("Copy", "/f", "/c"), from("Copy", "/d", "/c"), from("Copy", "/d/e", "/far/c"), from("Copy", "/far", "/empty/c"), from("Copy", "/d", "/d/e/k/c"), from("Copy", "/f", "/far/n17"), from("Copy", "/empty", "/d/m2/c/"),
		from("Same", "/d/m0", "/d/m1"), from("Same", "/d/e", "/far"), from("Same", "/d/e/f", "/again"), from("Same", "/d", "/d/"), from("Same", "/far/n00", "/far/n01"), from("Same", "/f", "/missing"),
	}
	l = append(l, makes("/n", "/far/n", "/d/e/k/n", "/empty/n", "/f", "/far/n17", "/missing/n", "/f/n", "/n/", "/")...)
	l = append(l, of("Unlink", "/f", "/again", "/d/e/f", "/far/n00", "/far/n17", "/far/g", "/d/e/k/l", "/d", "/missing", "/far/missing", "/f/")...)
	l = append(l, of("Rmdir", "/empty", "/d", "/d/e/k", "/f", "/missing")...)
	l = append(l, of("RemoveAll", "/f", "/again", "/d", "/d/e", "/far", "/empty", "/d/m1", "/missing", "/f/")...)
	l = append(l, call{op: "RemoveAll", s: "/d"}.with(10), call{op: "Unlink", s: "/f"}.with(5), call{op: "Rmdir", s: "/empty"}.with(6))
	for i := range l {
		l[i].stamp = 9
	}
	return l
}

// stood is a committed form on a disk, and how to make the inodes of it that calls are done to.
type stood struct {
	*stand
	out   api.Out
	m     model
	image []api.Block
	dirty bool // whether something was changed behind the commit
}

// stands is a thicket, committed.
func stands(t *testing.T, dirty bool) *stood {
	t.Helper()
	s := made(t, 512, 0)
	// An older tree lies beside it.
	s.commit(s.laid(plant("/d/", "/d/old")))
	m := thicket()
	_, out := s.commit(s.laid(m))
	st := &stood{s, out, m, s.d.Image(), dirty}
	if dirty {
		for _, c := range changes() {
			_, st.m = c.want(st.m)
		}
	}
	return st
}

// changes is what is done behind the commit.
func changes() []call {
	return []call{{op: "Create", s: "/far/z", stamp: 5}, {op: "Rename", old: "/far/n02", s: "/far/y", stamp: 6}, {op: "Link", old: "/d/m2/x", s: "/d/m0/z", stamp: 7}}
}

// fresh is the inodes to which a call is to be done.
func (st *stood) fresh() *inodes.Inodes {
	st.t.Helper()
	x := st.open(st.out.Table, st.out.High)
	if st.dirty {
		for _, c := range changes() {
			if a := c.do(x); a.err != api.OK {
				st.t.Fatalf("%s = %v", c.brief(), a)
			}
		}
	}
	return x
}

// judged asks that a call that met a fault told what it must, and did it, or ErrTampered, and changed nothing; it tells whether it was that. The disk is laid back.
func (st *stood) judged(what string, c call, x *inodes.Inodes, got answer) bool {
	st.t.Helper()
	st.d.Plan(nil)
	st.d.Load(st.image)
	want, next := c.want(st.m)
	tampered := got == answer{err: api.ErrTampered}
	switch {
	case tampered:
		holds(st.t, what+", tampered", x, st.m)
	case got == want:
		holds(st.t, what, x, next)
	default:
		st.t.Fatalf("%s = %v; want %v, or ErrTampered", what, got, want)
	}
	return tampered
}

// eachNeeding does something with each call, on a thicket as it was committed, and on one that was changed since, each with a disk of its own.
func eachNeeding(t *testing.T, do func(t *testing.T, st *stood, c call)) {
	t.Parallel()
	for _, dirty := range []bool{false, true} {
		t.Run(fmt.Sprint("changed since: ", dirty), func(t *testing.T) {
			t.Parallel()
			for _, c := range needing() {
				do(t, stands(t, dirty), c)
			}
		})
	}
}

// reads is the raw reads of a call on a quiet disk.
func (st *stood) reads(c call) []int {
	st.t.Helper()
	x := st.fresh()
	first := len(st.d.Log())
	c.do(x)
	var l []int
	for _, raw := range st.d.Log()[first:] {
		if raw.Kind != api.RawRead {
			st.t.Errorf("%s: a raw step that is no read", c.brief())
		}
		l = append(l, raw.At)
	}
	return l
}

// allOver is all blocks written over ahead of a raw step.
func (s *stand) allOver(op int) []api.Step {
	var plan []api.Step
	for at := 1; at < int(s.next); at++ {
		plan = append(plan, api.Step{Op: op, Kind: api.StepBlock, At: at, Data: junk()})
	}
	return plan
}

// A quiet disk: each call tells what the model does.
func TestQuiet(t *testing.T) {
	eachNeeding(t, func(t *testing.T, st *stood, c call) {
		x := st.fresh()
		if st.judged(c.brief(), c, x, c.do(x)) {
			t.Errorf("%s told ErrTampered", c.brief())
		}
	})
}

// All blocks are written over ahead of each raw read of each call in turn, and stay so: a call that reads there tells ErrTampered.
func TestFaultsAtEachRead(t *testing.T) {
	eachNeeding(t, func(t *testing.T, st *stood, c call) {
		reads := len(st.reads(c))
		for step := range reads + 1 {
			x := st.fresh()
			st.d.Plan(st.allOver(st.d.Ops() + step))
			what := fmt.Sprintf("%s, all written over ahead of its raw read %d of %d", c.brief(), step, reads)
			if st.judged(what, c, x, c.do(x)) != (step < reads) {
				t.Fatal(what)
			}
		}
	})
}

// One block is written over just ahead of the raw read that reads it, and laid back behind it.
func TestOneFaultAtEachRead(t *testing.T) {
	eachNeeding(t, func(t *testing.T, st *stood, c call) {
		for step, at := range st.reads(c) {
			x := st.fresh()
			op := st.d.Ops() + step
			st.d.Plan([]api.Step{
				{Op: op, Kind: api.StepBlock, At: at, Data: junk()},
				{Op: op + 1, Kind: api.StepBlock, At: at, Data: st.image[at]},
			})
			what := fmt.Sprintf("%s, the block %d written over ahead of its raw read %d", c.brief(), at, step)
			if !st.judged(what, c, x, c.do(x)) {
				t.Fatal(what)
			}
		}
	})
}

// An older image of the whole disk is laid over it ahead of each raw read.
func TestAnOlderImage(t *testing.T) {
	eachNeeding(t, func(t *testing.T, st *stood, c call) {
		for step := range len(st.reads(c)) {
			x := st.fresh()
			st.d.Plan([]api.Step{{Op: st.d.Ops() + step, Kind: api.StepAll, Back: 2}})
			what := fmt.Sprintf("%s, an older image ahead of its raw read %d", c.brief(), step)
			if !st.judged(what, c, x, c.do(x)) {
				t.Fatal(what)
			}
		}
	})
}

// Each block that a call reads, written over from the beginning on: it tells that. All those that it does not read may be lost.
func TestBlocksWrittenOver(t *testing.T) {
	eachNeeding(t, func(t *testing.T, st *stood, c call) {
		reads := st.reads(c)
		x := st.fresh()
		for at := 1; at < int(st.next); at++ {
			if !slices.Contains(reads, at) {
				st.over(uint32(at), junk())
			}
		}
		if st.judged(c.brief(), c, x, c.do(x)) {
			t.Fatalf("%s read more than on a quiet disk", c.brief())
		}
		slices.Sort(reads)
		for _, at := range slices.Compact(reads) {
			x := st.fresh()
			st.over(uint32(at), junk())
			what := fmt.Sprintf("%s with the block %d written over", c.brief(), at)
			if !st.judged(what, c, x, c.do(x)) {
				t.Fatal(what)
			}
		}
	})
}

// Calls read what they are about: else nothing of all this would say anything.
func TestReads(t *testing.T) {
	reads := 0
	for _, c := range needing() {
		reads += len(stands(t, false).reads(c))
	}
	if reads < 500 {
		t.Errorf("all calls read %d times", reads)
	}
}

// T3: a call needs the directories that it is about, those on the way to them, and the bytes that it copies or compares; all blocks of other inodes' bytes may be lost.
func TestWhatIsNeeded(t *testing.T) {
	st := stands(t, false)
	owners := st.owners(st.out.Table)
	for _, c := range []struct {
		call  call
		needs []string
	}{
		{call{op: "Create", s: "/n"}, []string{"/"}},
		{call{op: "Create", s: "/d/e/n"}, []string{"/", "/d", "/d/e"}},
		{call{op: "Mkdir", s: "/far/n"}, []string{"/", "/far"}},
		{call{op: "Mkdir", s: "/empty/n"}, []string{"/"}},
		{from("Link", "/d/e/f", "/far/l"), []string{"/", "/d", "/d/e", "/far"}},
		{from("Link", "/f", "/l"), []string{"/"}},
		{call{op: "Unlink", s: "/d/m1/x"}, []string{"/", "/d", "/d/m1"}},
		{call{op: "Unlink", s: "/f"}, []string{"/"}},
		{call{op: "Unlink", s: "/again"}, []string{"/"}},
		{call{op: "Rmdir", s: "/empty"}, []string{"/"}},
		{call{op: "Rmdir", s: "/far"}, []string{"/"}},
		{from("Rename", "/d", "/r"), []string{"/"}},
		{from("Rename", "/d", "/empty/r"), []string{"/"}},
		{from("Rename", "/d/e", "/far/r"), []string{"/", "/d", "/far"}},
		{from("Rename", "/f", "/d/e/f"), []string{"/", "/d", "/d/e"}},
		{from("Rename", "/far", "/empty"), []string{"/"}},
		{from("Rename", "/empty", "/far"), []string{"/"}},
		{from("Copy", "/f", "/c"), []string{"/", "/f"}},
		{from("Copy", "/far/g", "/d/c"), []string{"/", "/far", "/far/g", "/d"}},
		{from("Copy", "/d/e", "/c"), []string{"/", "/d", "/d/e", "/d/e/f", "/d/e/k", "/d/e/k/l"}},
		{from("Copy", "/empty", "/c"), []string{"/"}},
		{from("Copy", "/d", "/d/e/k/c"), []string{"/", "/d", "/d/e", "/d/e/k"}},
		{call{op: "RemoveAll", s: "/f"}, []string{"/"}},
		{call{op: "RemoveAll", s: "/d/e"}, []string{"/", "/d", "/d/e", "/d/e/k"}},
		{call{op: "RemoveAll", s: "/far"}, []string{"/", "/far"}},
		{from("Same", "/f", "/d/m0/x"), []string{"/", "/d", "/d/m0", "/f", "/d/m0/x"}},
		{from("Same", "/d/m0", "/far"), []string{"/", "/d", "/d/m0", "/far"}},
		{from("Same", "/f", "/empty"), []string{"/"}},
	} {
		spared := map[int]bool{0: true}
		for _, s := range c.needs {
			spared[st.m.number(s)] = true
		}
		x := st.fresh()
		for n, blocks := range owners {
			for _, at := range blocks {
				if !spared[n] {
					st.over(at, junk())
				}
			}
		}
		c.call.stamp = 9
		if st.judged(c.call.brief(), c.call, x, c.call.do(x)) {
			t.Errorf("%s read what it does not need", c.call.brief())
		}
	}
}

// Without power each call that has to read tells that, and changes nothing.
func TestWithoutPower(t *testing.T) {
	eachNeeding(t, func(t *testing.T, st *stood, c call) {
		want, next := c.want(st.m)
		if len(st.reads(c)) > 0 {
			want, next = answer{err: api.ErrCut}, st.m
		}
		x := st.fresh()
		st.dies()
		if got := c.do(x); got != want {
			t.Fatalf("%s without power = %v; want %v", c.brief(), got, want)
		}
		st.d.Revive()
		holds(t, c.brief()+" without power", x, next)
	})
}

// Begin where all was dropped and the table can't be read.
func TestBeginFaults(t *testing.T) {
	s := made(t, 64, 0)
	m := plant("/a/", "/b/", "/c/", "/d/", "/e/", "/f/")
	_, out := s.commit(s.laid(m))
	image := s.d.Image()
	for step, met := 0, true; met; step++ {
		x := s.open(out.Table, out.High)
		for _, n := range m.numbers()[4:] {
			x.Drop(n)
		}
		first := s.d.Ops()
		s.d.Plan(s.allOver(first + step))
		got := call{op: "Begin"}.do(x)
		want := answer{err: api.ErrThere}
		if met = s.d.Ops() > first+step; met {
			want.err = api.ErrTampered
		}
		s.d.Plan(nil)
		s.d.Load(image)
		if got != want {
			t.Fatalf("Begin, all written over ahead of its raw read %d = %v; want %v", step, got, want)
		}
		if step == 0 && !met {
			t.Error("nothing was read")
		}
		if l, err := x.All(); !slices.Equal(l, []int{1, 2, 3, 4}) || err != api.OK {
			t.Errorf("behind it there are %v, %d", l, err)
		}
	}
}

// Drawn calls on a disk of which blocks are written over as it comes: each answer is the model's, or ErrTampered, and then nothing is changed.
func TestDrawnFaults(t *testing.T) {
	t.Parallel()
	tampered, fine := 0, 0
	for seed := range uint64(60) {
		r := drawing(1000 + seed)
		s := made(t, 8192, r.IntN(3)*r.IntN(12))
		x, m := s.laid(thicket()), thicket()
		x, _ = s.commit(x)
		for step := range 60 {
			c := r.call(m, uint64(step+2))
			want, next := c.want(m)
			image := s.d.Image()
			var plan []api.Step
			for range r.IntN(12) {
				plan = append(plan, api.Step{Op: s.d.Ops() + r.IntN(20), Kind: api.StepBlock, At: 1 + r.IntN(int(s.next)), Data: junk()})
			}
			s.d.Plan(plan)
			got := c.do(x)
			s.d.Plan(nil)
			s.d.Load(image)
			what := fmt.Sprintf("seed %d, step %d: %s", seed, step, c.brief())
			switch got {
			case answer{err: api.ErrTampered}:
				tampered++
				next = m
			case want:
				fine++
			default:
				t.Fatalf("%s = %v; want %v", what, got, want)
			}
			holds(t, what, x, next)
			m = next
			if r.IntN(8) == 0 && s.next < 7000 {
				x, _ = s.commit(x)
			}
		}
	}
	if tampered < 100 || fine < 1000 {
		t.Errorf("%d were tampered, %d were fine", tampered, fine)
	}
}

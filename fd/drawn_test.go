package fd_test

import (
	"maps"
	"math"
	"math/rand/v2"
	"testing"

	"signet/api"
	"signet/fd"
)

// 23.5

// pair is descriptors and their plain form.
type pair struct {
	f *fd.Fds
	p plain
}

// drawn is a drawing of calls of some pairs, each of which goes its own way.
type drawn struct {
	*rand.Rand
	t     *testing.T
	pairs []pair
	fills bool // whether more is opened than closed
}

// number is one of a descriptor, mostly one that is open.
func (d drawn) number(p plain) int {
	if all := p.all(); len(all) > 0 && d.IntN(6) != 0 {
		return all[d.IntN(len(all))]
	}
	l := numbers()
	return l[d.IntN(len(l))]
}

// inode is one of few, so that they are met again; now and then one that is none.
func (d drawn) inode() int {
	if d.IntN(10) == 0 {
		l := noInodes()
		return l[d.IntN(len(l))]
	}
	return []int{1, 2, 3, 4, 5, 6, 4095, 4096}[d.IntN(8)]
}

func (d drawn) flags() int {
	if d.IntN(8) == 0 {
		l := allFlags()
		return l[d.IntN(len(l))]
	}
	return good[d.IntN(len(good))]
}

// place is a place, mostly one that may be.
func (d drawn) place() int {
	switch d.IntN(8) {
	case 0:
		return []int{0, 1, api.MaxFile, api.MaxFile - 1}[d.IntN(4)]
	case 1:
		l := beyond()
		return l[d.IntN(len(l))]
	case 2:
		return d.IntN(400)
	}
	return d.IntN(api.MaxFile + 1)
}

// by is how far to go, in both directions.
func (d drawn) by() int {
	switch d.IntN(6) {
	case 0:
		return []int{math.MinInt, math.MaxInt, 0, api.MaxFile, -api.MaxFile}[d.IntN(5)]
	case 1:
		return -d.place()
	case 2:
		return d.IntN(200) - 100
	}
	return d.IntN(2*api.MaxFile) - api.MaxFile
}

// same tells of an answer that is not the plain form's.
func (d drawn) same(call string, args []int, got int, err api.Errno, want int, wantErr api.Errno) {
	d.t.Helper()
	if got != want || err != wantErr {
		d.t.Fatalf("%s(%v) = %d, %d; want %d, %d", call, args, got, err, want, wantErr)
	}
}

// clone lays a copy of a pair beside it, or in the place of another one.
func (d *drawn) clone(x pair) {
	c := pair{x.f.Clone(), maps.Clone(x.p)}
	if len(d.pairs) < 4 {
		d.pairs = append(d.pairs, c)
		return
	}
	d.pairs[d.IntN(len(d.pairs))] = c
}

// step does one call to one of the pairs, and asks for the answer.
func (d *drawn) step() {
	x := d.pairs[d.IntN(len(d.pairs))]
	n := d.number(x.p)
	opening := 4
	if d.fills {
		opening = 8
	}
	switch k := d.IntN(12 + opening); k {
	case 0, 1, 2, 3:
		err, want := x.f.Close(n), x.p.close(n)
		d.same("Close", []int{n}, 0, err, 0, want)
	case 4, 5:
		at := d.place()
		err, want := x.f.Move(n, at), x.p.move(n, at)
		d.same("Move", []int{n, at}, 0, err, 0, want)
	case 6, 7, 8:
		by, whence, size := d.by(), d.IntN(3), d.place()
		if d.IntN(12) == 0 {
			whence = d.IntN(9) - 4
		}
		at, err := x.f.Seek(n, by, whence, size)
		want, wantErr := x.p.seek(n, by, whence, size)
		d.same("Seek", []int{n, by, whence, size}, at, err, want, wantErr)
	case 9:
		if d.IntN(4) == 0 {
			d.clone(x)
		}
	case 10, 11:
		to, err := x.f.Dup(n)
		want, wantErr := x.p.dup(n)
		d.same("Dup", []int{n}, to, err, want, wantErr)
	default:
		inode, flags := d.inode(), d.flags()
		to, err := x.f.Open(inode, flags)
		want, wantErr := x.p.open(inode, flags)
		d.same("Open", []int{inode, flags}, to, err, want, wantErr)
	}
}

// Drawn calls, each answer held against the plain form's, and behind each all that can be asked of all pairs.
func TestDrawnCalls(t *testing.T) {
	most := 0
	for seed := range uint64(8) {
		d := &drawn{rand.New(rand.NewPCG(23, seed)), t, []pair{{fd.New(), plain{}}}, seed%2 == 0}
		for range 1500 {
			d.step()
			for _, x := range d.pairs {
				holds(t, "behind drawn calls", x.f, x.p)
				most = max(most, len(x.p))
			}
			if t.Failed() {
				return
			}
		}
	}
	if most != api.MaxFds {
		t.Errorf("no drawing had all descriptors open: %d at the most", most)
	}
}

// Behind drawn calls Uses of every inode there can be.
func TestUsesOfAllInodesBehindDrawnCalls(t *testing.T) {
	for seed := range uint64(4) {
		d := &drawn{rand.New(rand.NewPCG(230, seed)), t, []pair{{fd.New(), plain{}}}, true}
		for range 300 {
			d.step()
		}
		for _, x := range d.pairs {
			for inode := -1; inode <= api.MaxInodes+1; inode++ {
				if n := x.f.Uses(inode); n != x.p.uses(inode) {
					t.Errorf("Uses(%d) = %d; want %d", inode, n, x.p.uses(inode))
				}
			}
		}
	}
}

// What was opened is got; what was closed is not; numbers are below MaxFds.
func TestWhatWasOpenedIsGot(t *testing.T) {
	r := rand.New(rand.NewPCG(23, 99))
	f := fd.New()
	for range 3000 {
		if inode := 1 + r.IntN(api.MaxInodes); r.IntN(5) < 3 {
			flags := good[r.IntN(len(good))]
			n, err := f.Open(inode, flags)
			if err == api.ErrFds && f.Len() == api.MaxFds {
				continue
			}
			if n < 0 || n >= api.MaxFds || err != api.OK {
				t.Fatalf("Open = %d, %d", n, err)
			}
			if o, err := f.Get(n); o != (api.Open{Inode: inode, Flags: flags}) || err != api.OK {
				t.Fatalf("Get(%d) = %v, %d behind Open(%d, %d)", n, o, err, inode, flags)
			}
			continue
		}
		n := r.IntN(api.MaxFds)
		_, was := f.Get(n)
		if err := f.Close(n); err != was {
			t.Fatalf("Close(%d) = %d; Get told %d", n, err, was)
		}
		if o, err := f.Get(n); o != (api.Open{}) || err != api.ErrFd {
			t.Fatalf("Get(%d) = %v, %d behind Close", n, o, err)
		}
	}
}

package slot_test

import (
	"math"
	"slices"
	"testing"

	"signet/api"
	"signet/disk"
	"signet/slot"
)

// made is a register on a disk of 16 blocks.
func made(t *testing.T) (*slot.Register, *disk.Disk) {
	t.Helper()
	d, err := disk.New(16)
	if err != api.OK {
		t.Fatal(err)
	}
	r := slot.New(d)
	if r == nil {
		t.Fatal("New = nil")
	}
	return r, d
}

// one is a slot with a counter, and a root that hangs on it.
func one(counter uint64) api.Slot {
	s := api.Slot{Counter: counter, Root: api.Ref{At: uint32(counter%9) + 2}}
	s.Root.Sum[0], s.Root.Sum[31] = byte(counter), byte(counter>>8)+1
	return s
}

// ones is such slots with the counters from one to another.
func ones(from, to uint64) []api.Slot {
	var l []api.Slot
	for n := from; n <= to; n++ {
		l = append(l, one(n))
	}
	return l
}

// written is a register, and its disk, behind Writes of the counters 1, 2 .. n.
func written(t *testing.T, n uint64) (*slot.Register, *disk.Disk) {
	t.Helper()
	r, d := made(t)
	for _, s := range ones(1, n) {
		writes(t, r, s, api.OK)
	}
	return r, d
}

// writes writes a slot, and asks for the answer.
func writes(t *testing.T, r *slot.Register, s api.Slot, want api.Errno) {
	t.Helper()
	if err := r.Write(s); err != want {
		t.Errorf("Write(%d, at %d) = %d, want %d", s.Counter, s.Root.At, err, want)
	}
}

// reads asks for the slot, and that it is this one.
func reads(t *testing.T, r *slot.Register, want api.Slot) {
	t.Helper()
	if s, err := r.Read(); s != want || err != api.OK {
		t.Errorf("Read() = %v, %d; want %v", s, err, want)
	}
}

// unread asks that there is no slot to be read.
func unread(t *testing.T, r *slot.Register) {
	t.Helper()
	if s, err := r.Read(); s != (api.Slot{}) || err != api.ErrCut {
		t.Errorf("Read() = %v, %d; want none and ErrCut", s, err)
	}
}

// tells asks for all that was written.
func tells(t *testing.T, r *slot.Register, want []api.Slot) {
	t.Helper()
	if l := r.Written(); !slices.Equal(l, want) {
		t.Errorf("Written() = %v, want %v", l, want)
	}
	if n := r.Swings(); n != len(want) {
		t.Errorf("Swings() = %d, want %d", n, len(want))
	}
	for _, s := range want {
		if !r.Was(s) {
			t.Errorf("Was(%v) = false", s)
		}
	}
}

// events asks for the number of events of a disk.
func events(t *testing.T, d *disk.Disk, want int) {
	t.Helper()
	if n := d.Events(); n != want {
		t.Errorf("%d events, want %d", n, want)
	}
}

// 6.1

func TestReadOfANewRegister(t *testing.T) {
	r, d := made(t)
	reads(t, r, api.Slot{})
	reads(t, r, api.Slot{})
	events(t, d, 0)
	if d.Ops() != 0 || len(d.Log()) != 0 {
		t.Error("a Read is a raw step, or is logged")
	}
}

func TestWriteAndRead(t *testing.T) {
	r, d := made(t)
	for n := range uint64(40) {
		writes(t, r, one(n+1), api.OK)
		reads(t, r, one(n+1))
		events(t, d, int(n)+1)
	}
	if d.Ops() != 0 {
		t.Error("a Write of a slot is a raw step")
	}
	for _, raw := range d.Log() {
		if raw != (api.Raw{Kind: api.RawSwing}) {
			t.Errorf("%v is logged", raw)
		}
	}
}

// Any number but 0 may be the root's, also one that no block of the disk has; and any digest.
func TestWriteOfAnyRoot(t *testing.T) {
	var full api.Sum
	for i := range full {
		full[i] = 255
	}
	r, _ := made(t)
	for i, root := range []api.Ref{{At: 1}, {At: 15, Sum: full}, {At: 16}, {At: 8192}, {At: math.MaxUint32, Sum: full}, {At: 1 << 24}, {At: 1}, {At: 1}} {
		s := api.Slot{Counter: uint64(i) + 1, Root: root}
		writes(t, r, s, api.OK)
		reads(t, r, s)
	}
}

// behind is counters that do not go on from the counter n.
func behind(n uint64) []uint64 {
	l := []uint64{0, n, n + 2, n + 3, n + 1<<32, n + 1 + 1<<32, 1 << 63, math.MaxUint64 - 1, math.MaxUint64}
	if n > 0 {
		l = append(l, n-1, 1)
	}
	return slices.DeleteFunc(l, func(c uint64) bool { return c == n+1 })
}

func TestWriteOfACounterThatDoesNotGoOn(t *testing.T) {
	for _, n := range []uint64{0, 1, 2, 5} {
		r, d := written(t, n)
		d.Cut(api.Cut{Event: int(n)})
		for _, c := range behind(n) {
			writes(t, r, one(c), api.ErrBack)
		}
		events(t, d, int(n))
		tells(t, r, ones(1, n))
		if d.Dead() || len(d.Log()) != int(n) {
			t.Error("a Write that told ErrBack made an event")
		}
		d.Event()
		d.Revive()
		writes(t, r, one(n+1), api.OK)
		reads(t, r, one(n+1))
		events(t, d, int(n)+2)
	}
}

func TestWriteOfNoRoot(t *testing.T) {
	digest := api.Ref{Sum: api.Sum{1, 2, 3}}
	for _, n := range []uint64{0, 1, 4} {
		r, d := written(t, n)
		d.Cut(api.Cut{Event: int(n)})
		// ErrArg stands ahead of ErrBack.
		for _, c := range append(behind(n), n+1) {
			writes(t, r, api.Slot{Counter: c}, api.ErrArg)
			writes(t, r, api.Slot{Counter: c, Root: digest}, api.ErrArg)
		}
		events(t, d, int(n))
		tells(t, r, ones(1, n))
		if d.Dead() || len(d.Log()) != int(n) {
			t.Error("a Write that told ErrArg made an event")
		}
		if n > 0 {
			reads(t, r, one(n))
		}
		d.Event()
		d.Revive()
		writes(t, r, one(n+1), api.OK)
	}
}

// ErrCut stands ahead of the others, and no event comes.
func TestADeadDisk(t *testing.T) {
	r, d := written(t, 2)
	d.Cut(api.Cut{Event: 2})
	d.Write(1, api.Block{1})
	if !d.Dead() {
		t.Fatal("the disk is alive")
	}
	for range 2 {
		unread(t, r)
		for _, s := range []api.Slot{one(3), one(2), one(4), {}, {Counter: 3}, {Counter: 2}, {Counter: math.MaxUint64}, one(math.MaxUint64)} {
			writes(t, r, s, api.ErrCut)
		}
	}
	events(t, d, 3)
	tells(t, r, ones(1, 2))
	if s, is := r.At(2); s != one(2) || !is {
		t.Errorf("At(2) = %v, %v", s, is)
	}
	if n, is := r.Age(one(1)); n != 1 || !is {
		t.Errorf("Age = %d, %v", n, is)
	}
	if l := r.Between(1, 2); !slices.Equal(l, ones(1, 2)) {
		t.Errorf("Between(1, 2) = %v", l)
	}
	d.Revive()
	reads(t, r, one(2))
	writes(t, r, api.Slot{Counter: 3}, api.ErrArg)
	writes(t, r, one(2), api.ErrBack)
	writes(t, r, one(3), api.OK)
	reads(t, r, one(3))
	tells(t, r, ones(1, 3))
}

// A disk may be dead when the register is made on it.
func TestNewOnADeadDisk(t *testing.T) {
	d, _ := disk.New(16)
	d.Cut(api.Cut{})
	d.Event()
	r := slot.New(d)
	unread(t, r)
	writes(t, r, one(1), api.ErrCut)
	d.Revive()
	reads(t, r, api.Slot{})
	writes(t, r, one(1), api.OK)
	reads(t, r, one(1))
}

func TestACutAheadOfAWrite(t *testing.T) {
	for n := range uint64(4) {
		r, d := written(t, n)
		was, _ := r.Read()
		d.Cut(api.Cut{Event: int(n)})
		writes(t, r, one(n+1), api.ErrCut)
		unread(t, r)
		writes(t, r, one(n+1), api.ErrCut)
		writes(t, r, one(n+2), api.ErrCut)
		for range 2 {
			events(t, d, int(n)+1)
			tells(t, r, ones(1, n))
			if r.Was(one(n + 1)) {
				t.Errorf("what did not take place was written")
			}
			d.Revive()
			reads(t, r, was)
		}
		if len(d.Log()) != int(n) {
			t.Error("what did not take place is logged")
		}
		writes(t, r, one(n+2), api.ErrBack)
		// Another slot may have the counter of the one that did not take place.
		other := api.Slot{Counter: n + 1, Root: api.Ref{At: 77}}
		writes(t, r, other, api.OK)
		reads(t, r, other)
		tells(t, r, append(ones(1, n), other))
		if r.Was(one(n + 1)) {
			t.Errorf("what did not take place was written")
		}
	}
}

func TestACutBehindAWrite(t *testing.T) {
	for n := range uint64(4) {
		r, d := written(t, n)
		d.Cut(api.Cut{Event: int(n), After: true})
		writes(t, r, one(n+1), api.ErrCut)
		unread(t, r)
		writes(t, r, one(n+2), api.ErrCut)
		for range 2 {
			events(t, d, int(n)+1)
			tells(t, r, ones(1, n+1))
			d.Revive()
			reads(t, r, one(n+1))
		}
		if len(d.Log()) != int(n)+1 {
			t.Error("what took place is not logged")
		}
		writes(t, r, one(n+1), api.ErrBack)
		writes(t, r, one(n+2), api.OK)
		reads(t, r, one(n+2))
	}
}

// Raw writes of the disk are among its events; reads and barriers are none.
func TestRawWritesAreEventsToo(t *testing.T) {
	for _, after := range []bool{false, true} {
		r, d := made(t)
		d.Cut(api.Cut{Event: 3, After: after})
		d.Write(5, api.Block{5})
		writes(t, r, one(1), api.OK)
		d.Read(5)
		d.Barrier()
		reads(t, r, one(1))
		d.Write(6, api.Block{6})
		writes(t, r, one(2), api.ErrCut)
		events(t, d, 4)
		d.Revive()
		if after {
			tells(t, r, ones(1, 2))
			reads(t, r, one(2))
			continue
		}
		tells(t, r, ones(1, 1))
		reads(t, r, one(1))
	}
}

// A raw write that the power fails at leaves the slot, and what the adversary lays does not reach it.
func TestTheSlotIsNotOnTheDisk(t *testing.T) {
	r, d := written(t, 2)
	d.Plan([]api.Step{{Op: 2, Kind: api.StepAll, At: 0, Back: 0}})
	d.Read(1)
	d.Write(1, api.Block{1})
	d.Read(1)
	d.Load(slices.Repeat([]api.Block{{9}}, 16))
	reads(t, r, one(2))
	d.Cut(api.Cut{Event: 3, After: true})
	d.Write(2, api.Block{2})
	unread(t, r)
	d.Revive()
	reads(t, r, one(2))
	tells(t, r, ones(1, 2))
}

// 6.2

func TestWrittenOfANewRegister(t *testing.T) {
	r, _ := made(t)
	tells(t, r, nil)
	for _, s := range []api.Slot{{}, one(1), {Counter: 1}, {Root: api.Ref{At: 1}}} {
		if r.Was(s) {
			t.Errorf("Was(%v) = true", s)
		}
	}
}

// What was written is so wholly: another counter, number or digest is another slot.
func TestWas(t *testing.T) {
	r, _ := written(t, 300)
	tells(t, r, ones(1, 300))
	for _, n := range []uint64{1, 2, 150, 300} {
		wrong := make([]api.Slot, 6)
		for i := range wrong {
			wrong[i] = one(n)
		}
		wrong[0].Counter = 301
		wrong[1].Counter = 0
		wrong[2].Root.At++
		wrong[3].Root.At = 0
		wrong[4].Root.Sum[0]++
		wrong[5].Root.Sum[31]++
		for i, s := range wrong {
			if r.Was(s) {
				t.Errorf("Was(%v) = true, as wrong slot %d of the counter %d", s, i, n)
			}
		}
	}
	for _, s := range []api.Slot{{}, one(0), one(301), one(math.MaxUint64)} {
		if r.Was(s) {
			t.Errorf("Was(%v) = true", s)
		}
	}
}

// Lists that were handed out are not the register's own, nor one another's.
func TestListsAreNew(t *testing.T) {
	for n := range uint64(9) {
		r, _ := written(t, n)
		lists := [][]api.Slot{r.Written(), r.Written(), r.Between(0, math.MaxUint64), r.Between(1, n), r.Between(1, n)}
		for i, l := range lists {
			for j := range l[:cap(l)] {
				l[:cap(l)][j] = one(uint64(1000 + i))
			}
			for _, other := range lists[i+1:] {
				if !slices.Equal(other, ones(1, n)) {
					t.Errorf("behind a change of list %d another list is %v", i, other)
				}
			}
		}
		tells(t, r, ones(1, n))
		if l := r.Between(1, n); !slices.Equal(l, ones(1, n)) {
			t.Errorf("Between(1, %d) = %v", n, l)
		}
		first, last := r.Written(), r.Between(1, n)
		writes(t, r, one(n+1), api.OK)
		if !slices.Equal(first, ones(1, n)) || !slices.Equal(last, ones(1, n)) {
			t.Error("a Write changed a list that was handed out")
		}
		_ = append(first, one(2000))
		tells(t, r, ones(1, n+1))
		reads(t, r, one(n+1))
	}
}

// 6.4

// Two registers on one disk have their own slots, and one power; so have those of unlike disks their own power, too.
func TestTwoRegisters(t *testing.T) {
	a, d := written(t, 2)
	b := slot.New(d)
	c, _ := written(t, 1)
	reads(t, b, api.Slot{})
	d.Cut(api.Cut{Event: 4})
	writes(t, b, one(1), api.OK)
	writes(t, b, one(2), api.OK)
	writes(t, a, one(3), api.ErrCut)
	unread(t, a)
	unread(t, b)
	reads(t, c, one(1))
	writes(t, c, one(2), api.OK)
	d.Revive()
	writes(t, b, one(3), api.OK)
	reads(t, a, one(2))
	reads(t, b, one(3))
	reads(t, c, one(2))
	tells(t, a, ones(1, 2))
	tells(t, b, ones(1, 3))
	if a.Was(one(3)) {
		t.Error("a slot of one register was written in another one")
	}
}

// dark asks a register that has no power and nothing written for all that it tells.
func dark(t *testing.T, r *slot.Register) {
	t.Helper()
	for range 2 {
		unread(t, r)
		for _, s := range []api.Slot{{}, one(1), one(2), {Counter: 1}, one(math.MaxUint64)} {
			writes(t, r, s, api.ErrCut)
			if r.Was(s) {
				t.Errorf("Was(%v) = true", s)
			}
			if n, is := r.Age(s); n != 0 || is {
				t.Errorf("Age(%v) = %d, %v", s, n, is)
			}
			if got, is := r.At(s.Counter); got != (api.Slot{}) || is {
				t.Errorf("At(%d) = %v, %v", s.Counter, got, is)
			}
		}
		tells(t, r, nil)
		for _, p := range [][2]uint64{{0, math.MaxUint64}, {1, 1}, {0, 0}, {2, 1}, {math.MaxUint64, math.MaxUint64}} {
			if l := r.Between(p[0], p[1]); len(l) != 0 {
				t.Errorf("Between(%d, %d) = %v", p[0], p[1], l)
			}
		}
	}
}

func TestNilRegister(t *testing.T) {
	dark(t, nil)
}

func TestRegisterOfANilDisk(t *testing.T) {
	r := slot.New(nil)
	if r == nil {
		t.Fatal("New(nil) = nil")
	}
	dark(t, r)
	dark(t, new(slot.Register))
}

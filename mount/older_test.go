package mount_test

import (
	"math"
	"slices"
	"testing"

	"signet/api"
	"signet/digest"
	"signet/mount"
	"signet/super"
)

// 24.5, 24.6

// older asks what Older answers of a slot, and that nothing is written.
func (g rig) older(what string, s api.Slot, want api.Super, wantErr api.Errno) {
	g.t.Helper()
	at := g.stands()
	for _, l := range []*digest.Log{g.l, nil} {
		if x, err := mount.Older(g.d, l, s); x != want || err != wantErr {
			g.t.Errorf("%s: Older = %+v, %d; want %+v, %d", what, x, err, want, wantErr)
		}
	}
	g.unwritten(what+": Older", at)
}

// commits commits a system so many times, each time with a new stamp of the root directory alone, and tells its roots by their counters, from 1 on.
func (g rig) commits(many int) []api.Super {
	g.t.Helper()
	s := g.mount(0)
	all := []api.Super{{}, s.Root()}
	for range many {
		g.ok(s.Inodes().Touch(1, s.Stamp()), s.Commit())
		all = append(all, s.Root())
	}
	return all
}

// On a quiet disk Older of the register's slot is Peek.
func TestOlderOfTheRegistersSlot(t *testing.T) {
	for _, c := range disks {
		g := formatted(t, c.blocks)
		for range 3 {
			root, err := mount.Peek(g.d, g.r, g.l)
			if root != g.mount(0).Root() || err != api.OK {
				t.Errorf("of %d blocks Peek = %+v, %d", c.blocks, root, err)
			}
			g.older("the register's slot", g.slot(), root, api.OK)
			s := g.mount(0)
			g.ok(s.Inodes().Touch(1, s.Stamp()), s.Commit())
		}
	}
}

// A slot that was the register's tells its root as long as the block stands; a commit may have written over what was free.
func TestOlderOfSlotsBefore(t *testing.T) {
	g := formatted(t, 64)
	first := g.slot()
	image := g.d.Image()
	roots := g.commits(7)
	stand, gone := 0, 0
	for _, s := range g.r.Written() {
		b, err := super.Encode(roots[s.Counter])
		g.ok(err)
		if now := g.d.Image()[s.Root.At]; now == b {
			g.older("a slot whose block stands", s, roots[s.Counter], api.OK)
			stand++
		} else {
			g.older("a slot whose block is another one now", s, api.Super{}, api.ErrTampered)
			gone++
		}
	}
	if stand < 2 || gone == 0 {
		t.Errorf("%d root blocks stand, %d are written over", stand, gone)
	}
	g.over(g.slot().Root.At)
	g.older("a slot whose block is written over", g.slot(), api.Super{}, api.ErrTampered)
	g.ok(g.d.Load(image))
	g.older("the first slot, on an older image", first, roots[1], api.OK)
	g.older("the register's slot, on an older image", g.slot(), api.Super{}, api.ErrTampered)
	g.unmounted("an older image", api.ErrTampered, api.ErrTampered, api.Super{})
}

// A root's block alone is read: neither its table nor its map.
func TestOlderReadsTheRootAlone(t *testing.T) {
	for _, blocks := range []int{16, 1025, 8192} {
		g := formatted(t, blocks)
		s := g.slot()
		root := g.mount(0).Root()
		for at := range uint32(min(blocks, 40)) {
			if at != s.Root.At {
				g.over(at)
			}
		}
		from := g.d.Ops()
		g.older("with all else written over", s, root, api.OK)
		if many := g.d.Ops() - from; many != 2 {
			t.Errorf("%d blocks are read; want one each time", many)
		}
		if x, err := mount.Peek(g.d, g.r, g.l); x != root || err != api.OK {
			t.Errorf("with all else written over Peek = %+v, %d", x, err)
		}
		g.unmounted("with all else written over", api.ErrTampered, api.OK, root)
	}
}

// Slots that no register had.
func TestOlderOfOtherSlots(t *testing.T) {
	m := right(t, 64)
	g := m.lay(t, 64)
	right := g.slot()
	// other lays another root into the block 40.
	other := func(spoil func(x *api.Super)) api.Ref {
		x := m.root
		spoil(&x)
		b, err := super.Encode(x)
		g.ok(err)
		return g.put(40, b)
	}
	g.older("right", right, m.root, api.OK)
	g.older("zero", api.Slot{}, api.Super{}, api.ErrFresh)
	g.older("none beneath a counter", api.Slot{Counter: 1}, api.Super{}, api.ErrSuper)
	g.older("none beneath a great counter", api.Slot{Counter: math.MaxUint64}, api.Super{}, api.ErrSuper)
	for what, spoil := range map[string]func(s *api.Slot){
		"a counter that is 0":      func(s *api.Slot) { s.Counter = 0 },
		"the next counter":         func(s *api.Slot) { s.Counter++ },
		"a great counter":          func(s *api.Slot) { s.Counter += 1 << 32 },
		"the table's leaf":         func(s *api.Slot) { s.Root = m.root.Table.Root },
		"the map's leaf":           func(s *api.Slot) { s.Root = m.root.Map.Root },
		"a root of another disk":   func(s *api.Slot) { s.Root = other(func(x *api.Super) { x.Blocks = 65 }) },
		"a root with the counter":  func(s *api.Slot) { s.Root = other(func(x *api.Super) { x.Counter = 2 }) },
		"a root with its table":    func(s *api.Slot) { s.Root = other(func(x *api.Super) { x.Table.Root.At = 40 }) },
		"a root with its map":      func(s *api.Slot) { s.Root = other(func(x *api.Super) { x.Map.Root.At = 40 }) },
		"zeros, by their digest":   func(s *api.Slot) { s.Root = g.put(41, api.Block{}) },
		"a block of another mark":  func(s *api.Slot) { s.Root = g.put(42, junk(1)) },
		"a root in the next block": func(s *api.Slot) { s.Root = other(func(*api.Super) {}); s.Counter = 2 },
	} {
		s := right
		spoil(&s)
		g.older(what, s, api.Super{}, api.ErrSuper)
	}
	for what, spoil := range map[string]func(s *api.Slot){
		"the number 0":       func(s *api.Slot) { s.Root.At = 0 },
		"another block":      func(s *api.Slot) { s.Root.At++ },
		"a block too far":    func(s *api.Slot) { s.Root.At = 64 },
		"one far away":       func(s *api.Slot) { s.Root.At = math.MaxUint32 },
		"another digest":     func(s *api.Slot) { s.Root.Sum[31] ^= 0x80 },
		"no digest":          func(s *api.Slot) { s.Root.Sum = api.Sum{} },
		"a counter besides":  func(s *api.Slot) { s.Root.Sum[0]++; s.Counter = 7 },
		"the number 0, zero": func(s *api.Slot) { s.Root.At = 0; s.Counter = 0 },
	} {
		s := right
		spoil(&s)
		g.older(what, s, api.Super{}, api.ErrTampered)
	}
	// The same root in another block, under its own counter, is one that fits.
	s := api.Slot{Counter: 1, Root: other(func(*api.Super) {})}
	g.older("the same root elsewhere", s, m.root, api.OK)
}

// The disk is asked for first, then the slot, then what can be read.
func TestWhichErrorOfOlderIsFirst(t *testing.T) {
	g := formatted(t, 16)
	right := g.slot()
	for _, s := range []api.Slot{{}, right, {Counter: 1}, {Counter: 9, Root: api.Ref{At: 99}}} {
		if x, err := mount.Older(nil, g.l, s); x != (api.Super{}) || err != api.ErrArg {
			t.Errorf("Older of a nil disk = %+v, %d; want ErrArg", x, err)
		}
		if x, err := mount.Older(nil, nil, s); x != (api.Super{}) || err != api.ErrArg {
			t.Errorf("Older of a nil disk and log = %+v, %d; want ErrArg", x, err)
		}
	}
	g.dies()
	g.older("zero, without power", api.Slot{}, api.Super{}, api.ErrFresh)
	g.older("none, without power", api.Slot{Counter: 1}, api.Super{}, api.ErrSuper)
	g.older("past the disk, without power", api.Slot{Counter: 1, Root: api.Ref{At: 16}}, api.Super{}, api.ErrTampered)
	g.older("without power", right, api.Super{}, api.ErrCut)
	g.older("another counter, without power", api.Slot{Counter: 5, Root: right.Root}, api.Super{}, api.ErrCut)
	g.d.Revive()
	g.over(right.Root.At)
	g.older("another counter, written over", api.Slot{Counter: 5, Root: right.Root}, api.Super{}, api.ErrTampered)
}

// An older slot's root is one of this disk alone: another disk has other blocks there.
func TestOlderOnAnotherDisk(t *testing.T) {
	g, other := formatted(t, 64), formatted(t, 65)
	g.older("a slot of another disk", other.slot(), api.Super{}, api.ErrTampered)
	if slices.Equal(g.r.Written(), other.r.Written()) {
		t.Error("two disks have one slot")
	}
	// Its root laid there does not fit.
	other.put(other.slot().Root.At, g.d.Image()[g.slot().Root.At])
	other.older("a slot and a root of another disk", g.slot(), api.Super{}, api.ErrSuper)
}

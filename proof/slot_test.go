package proof_test

import (
	"math"
	"testing"

	"signet/api"
	"signet/super"
)

// 25.1: slots of all kinds.

// refused asks that all calls have one error against a slot, whatever the path and the range, if the path is one.
func (g rig) refused(what string, s api.Slot, want api.Errno) {
	g.t.Helper()
	for _, p := range []string{"/", "/d/f", "/d/f/", "/x", "/d/x", "/d/f/x"} {
		for _, at := range [][2]int{{0, 0}, {1, 3}, {-1, 0}, {0, 600}, {0, math.MinInt}} {
			g.same(what+", "+p, g.ask(g.cache(5), s, p, at[0], at[1]), fails(want))
		}
		g.follows(s, p, 0, 1)
	}
	for p, err := range map[string]api.Errno{"": api.ErrPath, "d": api.ErrPath, depth(33): api.ErrDeep, "/\x00": api.ErrName, full(1025): api.ErrLong} {
		g.same(what+", no path", g.ask(g.cache(5), s, p, 0, 0), fails(err))
	}
}

// small is a system with one directory and one file, committed.
func small(t *testing.T, blocks int) (build, api.Slot) {
	t.Helper()
	b := building(t, blocks)
	b.dir("/d")
	b.file("/d/f", 5, map[int]string{0: "hello"})
	return b, b.commit()
}

func TestSlotsThatNameNothing(t *testing.T) {
	b, _ := small(t, 64)
	b.refused("the zero slot", api.Slot{}, api.ErrSuper)
	for _, counter := range []uint64{1, 2, 3, math.MaxUint64} {
		b.refused("none", api.Slot{Counter: counter}, api.ErrSuper)
	}
	b.dies()
	b.refused("the zero slot, without power", api.Slot{}, api.ErrSuper)
	b.refused("none, without power", api.Slot{Counter: 2}, api.ErrSuper)
}

func TestSlotsOfOtherBlocks(t *testing.T) {
	b, right := small(t, 64)
	root := b.s.Root()
	for what, spoil := range map[string]func(s *api.Slot){
		"the number 0":               func(s *api.Slot) { s.Root.At = 0 },
		"another block":              func(s *api.Slot) { s.Root.At = 40 },
		"the first block too far":    func(s *api.Slot) { s.Root.At = 64 },
		"a block far away":           func(s *api.Slot) { s.Root.At = math.MaxUint32 },
		"another digest":             func(s *api.Slot) { s.Root.Sum[31] ^= 0x80 },
		"another digest's front":     func(s *api.Slot) { s.Root.Sum[0]++ },
		"no digest":                  func(s *api.Slot) { s.Root.Sum = api.Sum{} },
		"another digest and counter": func(s *api.Slot) { s.Root.Sum[5]++; s.Counter++ },
	} {
		s := right
		spoil(&s)
		b.refused(what, s, api.ErrTampered)
	}
	for what, x := range map[string]api.Ref{
		"the table's leaf": root.Table.Root,
		"the map's leaf":   root.Map.Root,
		"zeros":            b.put(40, api.Block{}),
		"junk":             b.put(41, junk(1)),
	} {
		b.refused(what, api.Slot{Counter: right.Counter, Root: x}, api.ErrSuper)
	}
}

// Roots that do not fit: a root in bytes that may be, with the digest that the slot has.
func TestSlotsThatDoNotFit(t *testing.T) {
	b, right := small(t, 64)
	// other lays another root into the block 40.
	other := func(spoil func(x *api.Super)) api.Ref {
		x := b.s.Root()
		spoil(&x)
		block, err := super.Encode(x)
		b.ok(err)
		return b.put(40, block)
	}
	for what, spoil := range map[string]func(s *api.Slot){
		"a counter that is 0":        func(s *api.Slot) { s.Counter = 0 },
		"the counter before":         func(s *api.Slot) { s.Counter-- },
		"the next counter":           func(s *api.Slot) { s.Counter++ },
		"a great counter":            func(s *api.Slot) { s.Counter += 1 << 32 },
		"the greatest counter":       func(s *api.Slot) { s.Counter = math.MaxUint64 },
		"a root with one more":       func(s *api.Slot) { s.Root = other(func(x *api.Super) { x.Counter++ }) },
		"a root of a greater disk":   func(s *api.Slot) { s.Root = other(func(x *api.Super) { x.Blocks = 65 }) },
		"a root of a smaller disk":   func(s *api.Slot) { s.Root = other(func(x *api.Super) { x.Blocks = 63 }) },
		"a root that is its table":   func(s *api.Slot) { s.Root = other(func(x *api.Super) { x.Table.Root.At = 40 }) },
		"a root that is its map":     func(s *api.Slot) { s.Root = other(func(x *api.Super) { x.Map.Root.At = 40 }) },
		"a root of the counter 0":    func(s *api.Slot) { s.Root = other(func(x *api.Super) { x.Counter = 0 }) },
		"a counter beyond the block": func(s *api.Slot) { s.Root = other(func(*api.Super) {}); s.Counter = 1 },
	} {
		s := right
		spoil(&s)
		b.refused(what, s, api.ErrArg)
	}
	// The root of the map may be any, as long as it lies elsewhere: proofs have no part of the map.
	s := right
	s.Root = other(func(x *api.Super) { x.Map.Root.Sum[3]++; x.Used = 40 })
	if a := b.follows(s, "/d/f", 1, 3); a.bytes != "ell" {
		t.Errorf("with another map Make = %q, %d", a.bytes, a.makeErr)
	}
	// The same root elsewhere, beneath its own counter, is one that fits.
	s.Root = other(func(*api.Super) {})
	if a := b.follows(s, "/d/f", 1, 3); a.bytes != "ell" {
		t.Errorf("elsewhere Make = %q, %d", a.bytes, a.makeErr)
	}
}

// A slot of another disk.
func TestSlotsOfAnotherDisk(t *testing.T) {
	b, s := small(t, 64)
	other, theirs := small(t, 65)
	b.refused("a slot of another disk", theirs, api.ErrTampered)
	other.put(s.Root.At, b.d.Image()[s.Root.At])
	other.refused("a slot and a root of another disk", s, api.ErrArg)
}

// The slots that were written ahead of the register's, as long as their blocks stand; each proof is one of its own slot alone.
func TestSlotsBefore(t *testing.T) {
	b := building(t, 400)
	b.file("/f", 700, map[int]string{0: full(700)})
	b.commit()
	var proofs []string
	for i := range 20 {
		b.write("/f", map[int]string{250: numbered(i)})
		s := b.commit()
		proofs = append(proofs, b.follows(s, "/f", 200, 100).text)
	}
	stand := 0
	slots := b.r.Written()
	for i, s := range slots[2:] {
		a := b.follows(s, "/f", 200, 100)
		if a.makeErr == api.ErrTampered {
			continue
		}
		stand++
		if want := full(700)[200:250] + numbered(i); a.text != proofs[i] || a.bytes[:len(want)] != want {
			t.Errorf("against the slot %d Make = %q, %d", s.Counter, a.bytes, a.makeErr)
		}
		for _, other := range slots {
			if other != s && takes(other, "/f", 200, a.bytes, a.text) {
				t.Errorf("a proof of the slot %d is one of the slot %d", s.Counter, other.Counter)
			}
		}
	}
	if stand < 2 {
		t.Errorf("%d of the older slots stand", stand)
	}
	// On older images the older slots stand, and the last one does not.
	last := slots[len(slots)-1]
	now := b.d.Image()
	b.over(last.Root.At)
	b.refused("the last slot, written over", last, api.ErrTampered)
	b.ok(b.d.Load(now))
	// Of a fresh tree there is no file.
	if a := b.follows(slots[0], "/f", 0, 0); a.inodeErr != api.ErrTampered && a.inodeErr != api.ErrMissing {
		t.Errorf("against the first slot Inode = %d", a.inodeErr)
	}
}

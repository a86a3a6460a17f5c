package mount_test

import (
	"slices"
	"testing"

	"signet/api"
	"signet/commit"
	"signet/digest"
	"signet/disk"
	"signet/mount"
	"signet/node"
	"signet/slot"
)

// rig is a disk, its register, and the log of all that is digested.
type rig struct {
	t *testing.T
	d *disk.Disk
	r *slot.Register
	l *digest.Log
}

// empty is a new disk and a fresh register.
func empty(t *testing.T, blocks int) rig {
	t.Helper()
	d, err := disk.New(blocks)
	if err != api.OK {
		t.Fatalf("a disk of %d blocks: error %d", blocks, err)
	}
	return rig{t, d, slot.New(d), digest.NewLog()}
}

// formatted is a rig with a fresh tree.
func formatted(t *testing.T, blocks int) rig {
	t.Helper()
	g := empty(t, blocks)
	g.ok(mount.Format(g.d, g.r, g.l))
	return g
}

// ok asks that calls were OK.
func (g rig) ok(errs ...api.Errno) {
	g.t.Helper()
	for _, err := range errs {
		if err != api.OK {
			g.t.Fatalf("error %d", err)
		}
	}
}

// mount is the system that is mounted, which must be OK, and writes nothing.
func (g rig) mount(cached int) *commit.State {
	g.t.Helper()
	at := g.stands()
	s, err := mount.Mount(g.d, g.r, g.l, cached)
	if s == nil || err != api.OK {
		g.t.Fatalf("Mount = %v, %d", s, err)
	}
	g.unwritten("Mount", at)
	return s
}

// slot is the slot that the register has, with power or without.
func (g rig) slot() api.Slot {
	if all := g.r.Written(); len(all) > 0 {
		return all[len(all)-1]
	}
	return api.Slot{}
}

// put lays a block raw, and tells its reference.
func (g rig) put(at uint32, b api.Block) api.Ref {
	g.t.Helper()
	g.ok(g.d.Write(int(at), b))
	return node.Of(nil, at, b)
}

// swing makes a reference the register's.
func (g rig) swing(x api.Ref) api.Slot {
	g.t.Helper()
	s := api.Slot{Counter: g.slot().Counter + 1, Root: x}
	g.ok(g.r.Write(s))
	return s
}

// dies cuts the power.
func (g rig) dies() {
	g.d.Cut(api.Cut{Event: g.d.Events()})
	g.d.Event()
}

// over writes blocks over with what nothing here has.
func (g rig) over(blocks ...uint32) {
	g.t.Helper()
	image := g.d.Image()
	for _, at := range blocks {
		image[at] = junk(at)
	}
	g.ok(g.d.Load(image))
}

// junk is a block that no tree has here, and unlike that of any other number.
func junk(n uint32) api.Block {
	return api.Block{0: 0xee, 50: byte(n), 51: byte(n >> 8), 255: 0xcc}
}

// standing is what can be told of a rig without reading raw.
type standing struct {
	image  []api.Block
	slots  []api.Slot
	events int
	logged int
}

// stands is what a rig is.
func (g rig) stands() standing {
	return standing{g.d.Image(), g.r.Written(), g.d.Events(), len(g.d.Log())}
}

// unwritten asks that nothing but raw reads was done to a rig since.
func (g rig) unwritten(what string, then standing) {
	g.t.Helper()
	for _, raw := range g.d.Log()[then.logged:] {
		if raw.Kind != api.RawRead {
			g.t.Fatalf("%s did a raw %d of the block %d", what, raw.Kind, raw.At)
		}
	}
	if !slices.Equal(g.d.Image(), then.image) || !slices.Equal(g.r.Written(), then.slots) || g.d.Events() != then.events {
		g.t.Fatalf("%s wrote something", what)
	}
}

// unread asks that not even a raw read was done.
func (g rig) unread(what string, then standing) {
	g.t.Helper()
	g.unwritten(what, then)
	if many := len(g.d.Log()) - then.logged; many > 0 {
		g.t.Fatalf("%s read %d blocks", what, many)
	}
}

// unmounted asks that Mount and Peek answer these errors, and write nothing. Where Peek is OK, it must tell that root.
func (g rig) unmounted(what string, wantMount, wantPeek api.Errno, root api.Super) {
	g.t.Helper()
	at := g.stands()
	for _, cached := range []int{0, 1, 100} {
		if s, err := mount.Mount(g.d, g.r, g.l, cached); s != nil || err != wantMount {
			g.t.Errorf("%s: Mount = %v, %d; want nil, %d", what, s, err, wantMount)
		}
	}
	if wantPeek != api.OK {
		root = api.Super{}
	}
	if x, err := mount.Peek(g.d, g.r, g.l); x != root || err != wantPeek {
		g.t.Errorf("%s: Peek = %+v, %d; want %+v, %d", what, x, err, root, wantPeek)
	}
	g.unwritten(what+": Mount or Peek", at)
}

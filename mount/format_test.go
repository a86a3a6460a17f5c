package mount_test

import (
	"fmt"
	"slices"
	"testing"

	"signet/api"
	"signet/disk"
	"signet/mount"
	"signet/slot"
)

// 24.1, 24.4

func TestFormat(t *testing.T) {
	for _, c := range disks {
		g := formatted(t, c.blocks)
		used := g.fresh(c.blocks, c.mapped)
		g.shape(used)
		if all := g.r.Written(); len(all) != 1 {
			t.Errorf("of %d blocks %d slots were written", c.blocks, len(all))
		}
	}
}

// shape asks that all that took place is the writes of these blocks, each once, a barrier, and the register's write.
func (g rig) shape(used []uint32) {
	g.t.Helper()
	raw := g.d.Log()
	var written []uint32
	for len(raw) > 0 && raw[0].Kind == api.RawWrite {
		written = append(written, uint32(raw[0].At))
		raw = raw[1:]
	}
	slices.Sort(written)
	if !slices.Equal(written, used) {
		g.t.Errorf("the blocks %v are written; want %v", written, used)
	}
	if !slices.Equal(raw, []api.Raw{{Kind: api.RawBarrier}, {Kind: api.RawSwing}}) {
		g.t.Errorf("behind the writes there is %v; want a barrier and a swing", raw)
	}
	if g.d.Ops() != len(used) || g.d.Events() != len(used)+1 {
		g.t.Errorf("%d raw steps and %d events; want %d and %d", g.d.Ops(), g.d.Events(), len(used), len(used)+1)
	}
}

// All that was written is digested, and logged; a log that is nil keeps nothing, and all else is the same.
func TestFormatIsLogged(t *testing.T) {
	for _, c := range disks {
		g, other := formatted(t, c.blocks), empty(t, c.blocks)
		for _, at := range g.fresh(c.blocks, c.mapped) {
			b := g.d.Image()[at]
			if !g.l.Has(api.TagBlock, string(b[:])) {
				t.Errorf("of %d blocks what is in the block %d is not logged", c.blocks, at)
			}
		}
		if err := mount.Format(other.d, other.r, nil); err != api.OK || other.slot() != g.slot() || !slices.Equal(other.d.Image(), g.d.Image()) {
			t.Errorf("with a nil log Format = %d, or it is another tree", err)
		}
	}
}

// What is on the disk already has no part in it.
func TestFormatOfADiskInUse(t *testing.T) {
	for _, c := range disks {
		g := empty(t, c.blocks)
		for at := range uint32(16) {
			g.over(at)
		}
		image := g.d.Image()
		g.ok(mount.Format(g.d, g.r, g.l))
		used := g.fresh(c.blocks, c.mapped)
		g.shape(used)
		for at, b := range g.d.Image() {
			if !slices.Contains(used, uint32(at)) && b != image[at] {
				t.Fatalf("of %d blocks the block %d is written over", c.blocks, at)
			}
		}
		g.isFresh("on a disk in use", g.mount(0), c.mapped)
	}
}

// refused asks that Format answers an error, and does nothing at all.
func (g rig) refused(what string, want api.Errno) {
	g.t.Helper()
	at, digests := g.stands(), g.l.Len()
	for range 2 {
		if err := mount.Format(g.d, g.r, g.l); err != want {
			g.t.Errorf("%s: Format = %d; want %d", what, err, want)
		}
	}
	g.unread(what+": Format", at)
	if g.l.Len() != digests {
		g.t.Errorf("%s: Format digested something", what)
	}
}

func TestFormatOfWhatHasASlot(t *testing.T) {
	g := formatted(t, 64)
	g.refused("behind a Format", api.ErrFormat)
	s := g.mount(0)
	g.ok(s.Inodes().Touch(1, 7), s.Commit())
	g.refused("behind a commit", api.ErrFormat)
	g.over(g.slot().Root.At)
	g.refused("with its root written over", api.ErrFormat)
	g = empty(t, 64)
	g.swing(api.Ref{At: 1})
	g.refused("with any slot", api.ErrFormat)
	g.dies()
	g.refused("without power, with a slot", api.ErrCut)
}

func TestFormatWithoutPower(t *testing.T) {
	g := empty(t, 16)
	g.dies()
	g.refused("without power", api.ErrCut)
	g.d.Revive()
	g.ok(mount.Format(g.d, g.r, g.l))
	g.fresh(16, 1)
}

func TestFormatOfNil(t *testing.T) {
	g := empty(t, 16)
	at := g.stands()
	dead := empty(t, 16)
	dead.dies()
	for what, err := range map[string]api.Errno{
		"a nil disk":                             mount.Format(nil, g.r, g.l),
		"a nil register":                         mount.Format(g.d, nil, g.l),
		"both nil":                               mount.Format(nil, nil, g.l),
		"all nil":                                mount.Format(nil, nil, nil),
		"a nil disk, and a register without one": mount.Format(nil, slot.New(nil), nil),
		"a nil disk, and a dead register":        mount.Format(nil, dead.r, nil),
		"a nil disk, and a register with a slot": mount.Format(nil, formatted(t, 16).r, nil),
		"a dead disk, and a nil register":        mount.Format(dead.d, nil, nil),
	} {
		if err != api.ErrArg {
			t.Errorf("Format of %s = %d; want ErrArg", what, err)
		}
	}
	if err := mount.Format(g.d, slot.New(nil), g.l); err != api.ErrCut {
		t.Errorf("Format with a register without a disk = %d; want ErrCut", err)
	}
	g.unread("a Format of nil", at)
}

// cutFormat is a rig in whose Format the power fails at an event.
func cutFormat(t *testing.T, blocks, event int, after bool) rig {
	t.Helper()
	g := empty(t, blocks)
	g.d.Cut(api.Cut{Event: event, After: after})
	if err := mount.Format(g.d, g.r, g.l); err != api.ErrCut || !g.d.Dead() {
		t.Fatalf("Format of %d blocks, cut at the event %d, after: %v = %d; want ErrCut", blocks, event, after, err)
	}
	return g
}

// The power fails at each event, ahead of it or behind it: the register has the zero slot, but for a cut behind its own write.
func TestFormatCutAtEachEvent(t *testing.T) {
	for _, c := range disks {
		last := c.mapped + 2
		for event := range last + 1 {
			for _, after := range []bool{false, true} {
				g := cutFormat(t, c.blocks, event, after)
				what := fmt.Sprintf("of %d blocks, cut at the event %d, after: %v", c.blocks, event, after)
				written := event
				if after && event < last {
					written++
				}
				g.cutShape(what, written)
				g.unmounted(what, api.ErrCut, api.ErrCut, api.Super{})
				g.d.Revive()
				if after && event == last {
					g.fresh(c.blocks, c.mapped)
					g.isFresh(what, g.mount(0), c.mapped)
					g.refused(what, api.ErrFormat)
					continue
				}
				if g.slot() != (api.Slot{}) {
					t.Fatalf("%s the register has %v", what, g.slot())
				}
				g.unmounted(what+" with power again", api.ErrFresh, api.ErrFresh, api.Super{})
				g.ok(mount.Format(g.d, g.r, g.l))
				g.fresh(c.blocks, c.mapped)
				g.isFresh(what+", and formatted again", g.mount(0), c.mapped)
			}
		}
		g := empty(t, c.blocks)
		g.d.Cut(api.Cut{Event: last + 1})
		g.ok(mount.Format(g.d, g.r, g.l))
		g.isFresh("with a cut behind it", g.mount(0), c.mapped)
	}
}

// cutShape asks that so many blocks were written, none of them 0 and none twice, and nothing was read.
func (g rig) cutShape(what string, many int) {
	g.t.Helper()
	written := map[int]bool{}
	for _, raw := range g.d.Log() {
		if raw.Kind == api.RawRead || raw.Kind == api.RawWrite && (raw.At == 0 || written[raw.At]) {
			g.t.Fatalf("%s there is a raw %d of the block %d", what, raw.Kind, raw.At)
		}
		if raw.Kind == api.RawWrite {
			written[raw.At] = true
		}
	}
	if len(written) != many {
		g.t.Fatalf("%s %d blocks are written; want %d", what, len(written), many)
	}
}

// The register's power is that of its own disk.
func TestFormatWithARegisterElsewhere(t *testing.T) {
	g, other := empty(t, 16), empty(t, 16)
	g.r = other.r
	other.dies()
	g.refused("with a dead register", api.ErrCut)
	other.d.Revive()
	other.d.Cut(api.Cut{Event: other.d.Events()})
	if err := mount.Format(g.d, g.r, g.l); err != api.ErrCut || g.slot() != (api.Slot{}) || g.d.Events() != 3 {
		t.Errorf("where the register's power fails Format = %d, the register has %v", err, g.slot())
	}
	other.d.Revive()
	g.dies()
	at := g.stands()
	if err := mount.Format(g.d, g.r, g.l); err != api.ErrCut || g.slot() != (api.Slot{}) {
		t.Errorf("of a dead disk with a register that is not Format = %d, the register has %v", err, g.slot())
	}
	g.unwritten("Format of a dead disk", at)
	g.d.Revive()
	if err := mount.Format(g.d, g.r, g.l); err != api.OK {
		t.Errorf("with a register on another disk Format = %d", err)
	}
	g.fresh(16, 1)
}

// Whatever the adversary lays in the midst of it: nothing is read, so it is OK, and a Mount is ErrTampered where a block is not what was written.
func TestFormatWithAnAdversary(t *testing.T) {
	for _, c := range disks {
		for step := range c.mapped + 2 {
			g := empty(t, c.blocks)
			steps := []api.Step{{Op: step, Kind: api.StepAll, Back: 0}}
			for at := range min(c.blocks, 20) {
				steps = append(steps, api.Step{Op: step, Kind: api.StepBlock, At: at, Data: junk(uint32(at))})
			}
			g.d.Plan(steps)
			g.ok(mount.Format(g.d, g.r, g.l))
			if step == 0 {
				g.isFresh("written behind the adversary", g.mount(0), c.mapped)
			} else if s, err := mount.Mount(g.d, g.r, g.l, 0); err != api.OK && err != api.ErrTampered || (s == nil) == (err == api.OK) {
				t.Errorf("Mount = %v, %d", s, err)
			}
		}
	}
}

// Disks know nothing of one another.
func TestFormatOfSeveral(t *testing.T) {
	a, b := empty(t, 16), empty(t, 1025)
	before := b.stands()
	a.ok(mount.Format(a.d, a.r, nil))
	b.unread("a Format of another disk", before)
	b.unmounted("beside a disk that is formatted", api.ErrFresh, api.ErrFresh, api.Super{})
	b.ok(mount.Format(b.d, b.r, nil))
	a.fresh(16, 1)
	b.fresh(1025, 3)
}

// Two disks that are alike are formatted alike.
func TestFormatIsTheSameAgain(t *testing.T) {
	for _, c := range disks {
		a, b := formatted(t, c.blocks), formatted(t, c.blocks)
		if a.slot() != b.slot() || !slices.Equal(a.d.Log(), b.d.Log()) {
			t.Errorf("of %d blocks Format is another one the second time", c.blocks)
		}
	}
	if d, _ := disk.New(16); mount.Format(d, slot.New(d), nil) != api.OK {
		t.Error("Format with a nil log is no OK")
	}
}

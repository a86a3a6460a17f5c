package mount_test

import (
	"math"
	"slices"
	"testing"

	"signet/api"
	"signet/commit"
	"signet/digest"
	"signet/mount"
	"signet/slot"
)

// 24.2, 24.4

// isFresh asks that a state has the fresh tree, and nothing new.
func (g rig) isFresh(what string, s *commit.State, mapped int) {
	g.t.Helper()
	used := g.fresh(g.d.Blocks(), mapped)
	root := s.Root()
	if root.Blocks != g.d.Blocks() || root.Counter != 1 || root.Inodes != 1 || root.Used != mapped+2 {
		g.t.Errorf("%s: the root is %+v", what, root)
	}
	if s.Slot() != g.slot() || s.Stamp() != 2 || s.Dead() {
		g.t.Errorf("%s: the slot is %v, the stamp %d, dead: %v", what, s.Slot(), s.Stamp(), s.Dead())
	}
	m := s.Room()
	if m.Blocks() != root.Blocks || !slices.Equal(m.List(api.RoomUsed), used) || m.Count(api.RoomFree) != root.Blocks-1-len(used) {
		g.t.Errorf("%s: the used blocks are %v; want %v", what, m.List(api.RoomUsed), used)
	}
	if n, err := s.New(); n != 0 || err != api.OK {
		g.t.Errorf("%s: New = %d, %d", what, n, err)
	}
	if l, err := s.Inodes().All(); !slices.Equal(l, []int{1}) || err != api.OK {
		g.t.Errorf("%s: the inodes are %v, %d", what, l, err)
	}
	if x, err := s.Inodes().Get(1); x != (api.Info{Number: 1, Kind: api.KindDir, Links: 1, Stamp: 1}) || err != api.OK {
		g.t.Errorf("%s: the inode 1 is %+v, %d", what, x, err)
	}
	if err := s.Commit(); err != api.OK || g.slot().Counter != 1 {
		g.t.Errorf("%s: a commit of nothing = %d", what, err)
	}
}

func TestMountBehindFormat(t *testing.T) {
	for _, c := range disks {
		for _, cached := range []int{0, 1, 5, api.MaxCache} {
			g := formatted(t, c.blocks)
			g.isFresh("behind a Format", g.mount(cached), c.mapped)
			g.isFresh("once more", g.mount(cached), c.mapped)
		}
	}
}

// What is mounted stands on that disk and log, has room for so many, and is not what was mounted ahead.
func TestMountStandsOnWhatItIsGiven(t *testing.T) {
	for _, cached := range []int{0, 1, 2, 100, api.MaxCache - 1, api.MaxCache} {
		g := formatted(t, 1025)
		g.l = digest.NewLog()
		a, b := g.mount(cached), g.mount(cached)
		c := a.Cache()
		if c.Disk() != g.d || c.Log() != g.l || c.Room() != cached {
			t.Errorf("with %d the cache stands on %p, %p, and has room for %d", cached, c.Disk(), c.Log(), c.Room())
		}
		if a == b || c == b.Cache() || a.Inodes() == b.Inodes() {
			t.Errorf("with %d two mounts have something in common", cached)
		}
		if len(c.Entries()) > cached || cached > 4 && len(c.Entries()) == 0 {
			t.Errorf("with %d %d blocks are kept", cached, len(c.Entries()))
		}
		s, err := mount.Mount(g.d, g.r, nil, cached)
		if err != api.OK || s.Cache().Log() != nil || s.Root() != a.Root() {
			t.Errorf("with %d and a nil log Mount = %v, %d", cached, s, err)
		}
	}
}

func TestMountOfWrongArguments(t *testing.T) {
	g, dead, fresh := formatted(t, 64), formatted(t, 64), empty(t, 64)
	dead.dies()
	for _, c := range []struct {
		what   string
		on     rig
		cached int
	}{
		{"below 0", g, -1},
		{"far below 0", g, math.MinInt},
		{"one too many", g, api.MaxCache + 1},
		{"far too many", g, math.MaxInt},
		{"a number that is 0 in 32 bits", g, 1 << 32},
		{"below 0 without power", dead, -1},
		{"one too many without power", dead, api.MaxCache + 1},
		{"below 0 on a fresh register", fresh, -1},
		{"one too many on a fresh register", fresh, api.MaxCache + 1},
		{"nil disk", rig{t, nil, g.r, g.l}, 0},
		{"nil disk, dead register", rig{t, nil, dead.r, g.l}, 0},
		{"nil disk, fresh register", rig{t, nil, fresh.r, g.l}, 0},
		{"nil disk, register without a disk", rig{t, nil, slot.New(nil), g.l}, 0},
		{"nil register", rig{t, g.d, nil, g.l}, 0},
		{"nil register, dead disk", rig{t, dead.d, nil, g.l}, 0},
		{"nil both", rig{t, nil, nil, g.l}, 0},
		{"nil all", rig{t, nil, nil, nil}, 0},
		{"nil all, and below 0", rig{t, nil, nil, nil}, -1},
	} {
		at := g.stands()
		if s, err := mount.Mount(c.on.d, c.on.r, c.on.l, c.cached); s != nil || err != api.ErrArg {
			t.Errorf("%s: Mount = %v, %d; want nil, ErrArg", c.what, s, err)
		}
		g.unread(c.what, at)
	}
}

func TestPeekOfWrongArguments(t *testing.T) {
	g, dead, fresh := formatted(t, 64), formatted(t, 64), empty(t, 64)
	dead.dies()
	for what, on := range map[string]rig{
		"nil disk":                          {t, nil, g.r, g.l},
		"nil disk, dead register":           {t, nil, dead.r, g.l},
		"nil disk, fresh register":          {t, nil, fresh.r, g.l},
		"nil disk, register without a disk": {t, nil, slot.New(nil), g.l},
		"nil register":                      {t, g.d, nil, g.l},
		"nil register, dead disk":           {t, dead.d, nil, g.l},
		"nil all":                           {t, nil, nil, nil},
	} {
		if x, err := mount.Peek(on.d, on.r, on.l); x != (api.Super{}) || err != api.ErrArg {
			t.Errorf("%s: Peek = %+v, %d; want ErrArg", what, x, err)
		}
	}
}

// A register without a slot, and one without power: that it has no power is told first.
func TestMountOfNothing(t *testing.T) {
	for _, c := range disks {
		g := empty(t, c.blocks)
		at := g.stands()
		g.unmounted("a fresh register", api.ErrFresh, api.ErrFresh, api.Super{})
		g.dies()
		g.unmounted("a fresh register without power", api.ErrCut, api.ErrCut, api.Super{})
		g.d.Revive()
		g.unmounted("a fresh register with power again", api.ErrFresh, api.ErrFresh, api.Super{})
		at.events++ // The cut's own.
		g.unread("Mount of nothing", at)

		g = formatted(t, c.blocks)
		g.dies()
		at = g.stands()
		g.unmounted("without power", api.ErrCut, api.ErrCut, api.Super{})
		g.unread("Mount without power", at)
		g.d.Revive()
		g.isFresh("with power again", g.mount(0), c.mapped)
	}
}

// The register's power is that of its own disk.
func TestMountWithARegisterElsewhere(t *testing.T) {
	g, other := formatted(t, 64), empty(t, 16)
	g.r = slot.New(other.d)
	g.ok(g.r.Write(formatted(t, 64).slot()))
	g.isFresh("with a register on another disk", g.mount(0), 1)
	root, err := mount.Peek(g.d, g.r, g.l)
	g.ok(err)
	g.dies()
	g.unmounted("a dead disk, a register with power", api.ErrCut, api.ErrCut, api.Super{})
	g.d.Revive()
	other.dies()
	g.unmounted("a register without power", api.ErrCut, api.ErrCut, api.Super{})
	if x, err := mount.Older(g.d, g.l, g.slot()); x != root || err != api.OK {
		t.Errorf("a register without power: Older = %+v, %d", x, err)
	}
	other.d.Revive()
	g.isFresh("with power again", g.mount(0), 1)
}

// A state's working form is its own: what is done to one that is mounted, the next one does not know, but for what was committed.
func TestMountsAreApart(t *testing.T) {
	g, other := formatted(t, 64), formatted(t, 64)
	a, b, c := g.mount(8), g.mount(0), other.mount(0)
	g.ok(a.Inodes().Touch(1, 99))
	n, err := a.Inodes().Make(api.KindFile, 2)
	if n != 2 || err != api.OK {
		t.Fatalf("Make = %d, %d", n, err)
	}
	g.isFresh("beside one that was changed", b, 1)
	g.isFresh("behind one that was changed", g.mount(0), 1)
	other.isFresh("of another disk", c, 1)
	g.ok(a.Commit())
	s := g.mount(0)
	if l, err := s.Inodes().All(); !slices.Equal(l, []int{1, 2}) || err != api.OK || s.Slot() != a.Slot() || s.Root() != a.Root() || s.Slot().Counter != 2 {
		t.Errorf("behind a commit the inodes are %v, %d, the root %+v", l, err, s.Root())
	}
	if !slices.Equal(s.Room().List(api.RoomUsed), a.Room().List(api.RoomUsed)) {
		t.Errorf("behind a commit %v are used; want %v", s.Room().List(api.RoomUsed), a.Room().List(api.RoomUsed))
	}
	other.isFresh("of another disk, behind a commit", other.mount(0), 1)
	other.isFresh("of another disk, mounted ahead of a commit", c, 1)
}

// What is read is digested in the log, and nothing else is.
func TestMountIsLogged(t *testing.T) {
	g := formatted(t, 1025)
	g.l = digest.NewLog()
	g.mount(api.MaxCache)
	root := g.slot().Root.At
	image := g.d.Image()
	for n := range g.l.Len() {
		e, _ := g.l.At(n)
		if e.Tag != api.TagBlock || !slices.ContainsFunc(image, func(b api.Block) bool { return string(b[:]) == e.Text }) {
			t.Errorf("the entry %d of the log is no block", n)
		}
	}
	if b := image[root]; !g.l.Has(api.TagBlock, string(b[:])) {
		t.Error("the root block is not logged")
	}
	for _, raw := range g.d.Log() {
		if raw.Kind == api.RawRead && !g.l.Has(api.TagBlock, string(raw.Data[:])) {
			t.Errorf("the block %d is read, and not logged", raw.At)
		}
	}
}

// Peek and Older digest the root's block in the log, and nothing else.
func TestPeekAndOlderAreLogged(t *testing.T) {
	g := formatted(t, 1025)
	b := g.d.Image()[g.slot().Root.At]
	peeked, older := digest.NewLog(), digest.NewLog()
	_, err := mount.Peek(g.d, g.r, peeked)
	g.ok(err)
	_, err = mount.Older(g.d, older, g.slot())
	g.ok(err)
	for _, l := range []*digest.Log{peeked, older} {
		if l.Len() != 1 || !l.Has(api.TagBlock, string(b[:])) {
			t.Errorf("%d texts are logged; want the root block alone", l.Len())
		}
	}
}

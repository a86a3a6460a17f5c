package mount_test

import (
	"slices"
	"testing"

	"signet/api"
	"signet/commit"
	"signet/mount"
)

// 24.2 to 24.4, T1, T3, T5

// Each block is written over by itself: the root block and the map's are needed, all others are not.
func TestEachBlockWrittenOver(t *testing.T) {
	t.Parallel()
	for _, blocks := range []int{128, 1025, 4097, 8192} {
		g := formatted(t, blocks)
		f := filled(g)
		root := g.mount(0).Root()
		needed, used := g.needed(), g.mount(0).Room().List(api.RoomUsed)
		if len(needed) != mapBlocks(blocks)+1 {
			t.Fatalf("of %d blocks %v are needed", blocks, needed)
		}
		image := g.d.Image()
		for _, at := range append(used, 0, uint32(blocks-1)) {
			for _, b := range []api.Block{junk(at), {}, image[root.Map.Root.At], image[(at+1)%uint32(blocks)]} {
				image[at], b = b, image[at]
				g.ok(g.d.Load(image))
				if image[at] != b {
					g.oneOver(at, needed, used, root, f)
				}
				image[at] = b
			}
		}
		g.ok(g.d.Load(image))
		g.shows("with all laid back", g.mount(0), f)
	}
}

// oneOver asks that all is as it must be with one block written over.
func (g rig) oneOver(at uint32, needed, used []uint32, root api.Super, f names) {
	g.t.Helper()
	if slices.Contains(needed, at) {
		peek := api.OK
		if at == g.slot().Root.At {
			peek = api.ErrTampered
		}
		g.unmounted("with a block written over", api.ErrTampered, peek, root)
		return
	}
	s := g.mount(0)
	if s.Root() != root {
		g.t.Fatalf("with the block %d written over the root is %+v; want %+v", at, s.Root(), root)
	}
	if whole := g.showsOrTampered("with a block written over", s, f); whole == slices.Contains(used, at) {
		g.t.Fatalf("with the block %d written over all is shown: %v; it is used: %v", at, whole, slices.Contains(used, at))
	}
}

// An adversary ahead of each raw read of a mount: it is the right one, or ErrTampered.
func TestMountWithAnAdversary(t *testing.T) {
	t.Parallel()
	for _, blocks := range []int{128, 1025, 8192} {
		for _, cached := range []int{0, 2, 100} {
			g := formatted(t, blocks)
			f := filled(g)
			needed, image := g.needed(), g.d.Image()
			from := g.d.Ops()
			quiet := g.mount(cached)
			reads := g.d.Ops() - from
			mounts, refusals := 0, 0
			for step := range reads {
				for _, l := range append(single(needed), needed) {
					g.d.Plan(over(g.d.Ops()+step, l))
					s, err := mount.Mount(g.d, g.r, g.l, cached)
					g.d.Plan(nil)
					if g.tampered(s, err, quiet) {
						refusals++
					} else {
						mounts++
					}
					g.ok(g.d.Load(image))
				}
			}
			if refusals == 0 || mounts == 0 {
				t.Errorf("of %d blocks, with %d kept: %d mounts and %d refusals", blocks, cached, mounts, refusals)
			}
			g.d.Plan(over(g.d.Ops(), needed[:1]))
			if x, err := mount.Peek(g.d, g.r, g.l); x != (api.Super{}) || err != api.ErrTampered {
				t.Errorf("Peek of a root that is written over = %+v, %d", x, err)
			}
			g.ok(g.d.Load(image))
			g.d.Plan(over(g.d.Ops(), needed[:1]))
			if x, err := mount.Older(g.d, g.l, g.slot()); x != (api.Super{}) || err != api.ErrTampered {
				t.Errorf("Older of a root that is written over = %+v, %d", x, err)
			}
			g.ok(g.d.Load(image))
			g.shows("with all laid back", g.mount(cached), f)
		}
	}
}

// single is a list for each block.
func single(l []uint32) (all [][]uint32) {
	for _, at := range l {
		all = append(all, []uint32{at})
	}
	return all
}

// over is what writes blocks over ahead of a raw step.
func over(op int, l []uint32) (steps []api.Step) {
	for _, at := range l {
		steps = append(steps, api.Step{Op: op, Kind: api.StepBlock, At: int(at), Data: junk(at)})
	}
	return steps
}

// tampered asks that a Mount is ErrTampered, or just as the one on the quiet disk, and tells which.
func (g rig) tampered(s *commit.State, err api.Errno, quiet *commit.State) bool {
	g.t.Helper()
	if err == api.ErrTampered && s == nil {
		return true
	}
	if err != api.OK || s == nil || s.Root() != quiet.Root() || s.Slot() != quiet.Slot() {
		g.t.Fatalf("Mount = %+v, %d; want the root %+v", s.Root(), err, quiet.Root())
	}
	if !slices.Equal(s.Room().List(api.RoomUsed), quiet.Room().List(api.RoomUsed)) {
		g.t.Fatalf("%v are used; want %v", s.Room().List(api.RoomUsed), quiet.Room().List(api.RoomUsed))
	}
	return false
}

// Older images of the whole disk: what was there ahead of the last commit is never shown.
func TestMountOfOlderImages(t *testing.T) {
	t.Parallel()
	for _, blocks := range []int{64, 1025} {
		g := formatted(t, blocks)
		images, ops := [][]api.Block{g.d.Image()}, []int{g.d.Ops() - 1}
		for range 6 {
			s := g.mount(0)
			g.ok(s.Inodes().Touch(1, s.Stamp()), s.Commit())
			images, ops = append(images, g.d.Image()), append(ops, g.d.Ops()-1)
		}
		last := len(images) - 1
		for i := range last {
			g.ok(g.d.Load(images[i]))
			g.unmounted("an older image", api.ErrTampered, g.peek(images[i], images[last]), g.rootOf(images[last]))
			g.ok(g.d.Load(images[last]))
			g.d.Plan([]api.Step{{Op: g.d.Ops(), Kind: api.StepAll, Back: ops[i]}})
			if s, err := mount.Mount(g.d, g.r, g.l, 0); s != nil || err != api.ErrTampered {
				t.Errorf("with all as it was at step %d Mount = %v, %d; want ErrTampered", ops[i], s, err)
			}
		}
		g.ok(g.d.Load(images[last]))
		g.shows("the last image", g.mount(0), rootAlone())
	}
}

// peek is what Peek must answer on an image, where the disk should be another one.
func (g rig) peek(image, right []api.Block) api.Errno {
	if at := g.slot().Root.At; image[at] != right[at] {
		return api.ErrTampered
	}
	return api.OK
}

// rootOf is the root on an image that is right.
func (g rig) rootOf(image []api.Block) api.Super {
	g.t.Helper()
	now := g.d.Image()
	g.ok(g.d.Load(image))
	x, err := mount.Peek(g.d, g.r, g.l)
	g.ok(err, g.d.Load(now))
	return x
}

// Where several errors apply, that of the root comes ahead of those of the map, and what can't be read ahead of what is no map.
func TestWhichErrorIsFirst(t *testing.T) {
	spoilt := func(spoil func(m *made), over ...uint32) rig {
		m := right(t, 1025)
		spoil(m)
		g := m.lay(t, 1025)
		g.over(over...)
		return g
	}
	root := right(t, 1025).at
	noRoot := func(m *made) { m.seal = func(b *api.Block) { b[200] = 1 } }
	noMap := func(m *made) { m.flip(0) }
	g := spoilt(noRoot, root)
	g.unmounted("no root, written over", api.ErrTampered, api.ErrTampered, api.Super{})
	g = spoilt(noRoot, 2, 3, 4)
	g.unmounted("no root, and a map that is written over", api.ErrSuper, api.ErrSuper, api.Super{})
	g = spoilt(func(m *made) { noRoot(m); noMap(m) })
	g.unmounted("no root, and no map", api.ErrSuper, api.ErrSuper, api.Super{})
	g = spoilt(func(m *made) { m.root.Counter = 5; noMap(m) }, 3)
	g.unmounted("another counter, and no map", api.ErrSuper, api.ErrSuper, api.Super{})
	g = spoilt(noRoot)
	g.dies()
	g.unmounted("no root, without power", api.ErrCut, api.ErrCut, api.Super{})
	for _, at := range []uint32{2, 3, 4} {
		m := right(t, 1025)
		noMap(m)
		m.root.Used++
		g = m.lay(t, 1025)
		g.unmounted("no map", api.ErrMap, api.OK, m.root)
		g.over(at)
		g.unmounted("no map, written over", api.ErrTampered, api.OK, m.root)
	}
}

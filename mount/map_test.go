package mount_test

import (
	"math"
	"slices"
	"testing"

	"signet/api"
	"signet/cache"
	"signet/mount"
)

// 24.3

func TestMap(t *testing.T) {
	for _, c := range disks {
		m := right(t, c.blocks)
		g := m.lay(t, c.blocks)
		k, err := cache.New(g.d, g.l, 0)
		g.ok(err)
		at := g.stands()
		a, err := mount.Map(k, m.root)
		if !slices.Equal(a, m.leaves) || err != api.OK {
			t.Fatalf("of %d blocks Map = %d leaves, %d; want %d", c.blocks, len(a), err, len(m.leaves))
		}
		g.unwritten("Map", at)
		for i := range a[:cap(a)] {
			a[:cap(a)][i] = junk(1)
		}
		if b, err := mount.Map(k, m.root); !slices.Equal(b, m.leaves) || err != api.OK {
			t.Errorf("of %d blocks Map is another one behind what was done to its answer", c.blocks)
		}
	}
}

// The leaves are those of the root that is handed in, whatever disk it is of and whatever the slot is.
func TestMapOfAnyRoot(t *testing.T) {
	m := right(t, 64)
	g := m.lay(t, 64)
	k, _ := cache.New(g.d, nil, 4)
	for _, spoil := range []func(x *api.Super){
		func(x *api.Super) { x.Counter = math.MaxUint64 },
		func(x *api.Super) { x.Blocks = 1024; x.Table.Root.At = 1023 },
		func(x *api.Super) { x.Blocks = 16 },
		func(x *api.Super) { x.Used = 63 },
		func(x *api.Super) { x.Inodes = 4 },
	} {
		x := m.root
		spoil(&x)
		if l, err := mount.Map(k, x); !slices.Equal(l, m.leaves) || err != api.OK {
			t.Errorf("Map of %+v = %v, %d", x, l, err)
		}
	}
}

func TestMapOfRootsThatMayNotBe(t *testing.T) {
	m := right(t, 64)
	g := m.lay(t, 64)
	k, _ := cache.New(g.d, nil, 4)
	dead := m.lay(t, 64)
	gone, _ := cache.New(dead.d, nil, 0)
	dead.dies()
	at := g.stands()
	for what, spoil := range map[string]func(x *api.Super){
		"zero":                 func(x *api.Super) { *x = api.Super{} },
		"15 blocks":            func(x *api.Super) { x.Blocks = 15 },
		"8193 blocks":          func(x *api.Super) { x.Blocks = 8193 },
		"below 0 blocks":       func(x *api.Super) { x.Blocks = -64 },
		"the most blocks":      func(x *api.Super) { x.Blocks = math.MaxInt },
		"no inode":             func(x *api.Super) { x.Inodes = 0 },
		"4097 inodes":          func(x *api.Super) { x.Inodes = 4097 },
		"a higher table":       func(x *api.Super) { x.Table.Height = 1 },
		"a higher map":         func(x *api.Super) { x.Map.Height = 1 },
		"a map below 0":        func(x *api.Super) { x.Map.Height = -1 },
		"a map that is none":   func(x *api.Super) { x.Map.Root = api.Ref{} },
		"a map past the disk":  func(x *api.Super) { x.Map.Root.At = 64 },
		"a table that is none": func(x *api.Super) { x.Table.Root = api.Ref{} },
		"one block for both":   func(x *api.Super) { x.Table.Root.At = x.Map.Root.At },
		"two used blocks":      func(x *api.Super) { x.Used = 2 },
		"64 used blocks":       func(x *api.Super) { x.Used = 64 },
	} {
		x := m.root
		spoil(&x)
		for _, c := range []*cache.Cache{k, nil, gone} {
			if l, err := mount.Map(c, x); len(l) != 0 || err != api.ErrSuper {
				t.Errorf("Map of a root with %s = %v, %d; want ErrSuper", what, l, err)
			}
		}
	}
	g.unread("Map of a root that may not be", at)
}

// Without a cache, and without power, nothing can be read but what is kept.
func TestMapThatCannotBeRead(t *testing.T) {
	m := right(t, 1025)
	g := m.lay(t, 1025)
	if l, err := mount.Map(nil, m.root); len(l) != 0 || err != api.ErrCut {
		t.Errorf("Map without a cache = %v, %d; want ErrCut", l, err)
	}
	none, _ := cache.New(g.d, nil, 0)
	all, _ := cache.New(g.d, nil, 100)
	if _, err := mount.Map(all, m.root); err != api.OK {
		t.Errorf("Map = %d", err)
	}
	g.dies()
	if l, err := mount.Map(none, m.root); len(l) != 0 || err != api.ErrCut {
		t.Errorf("Map without power = %v, %d; want ErrCut", l, err)
	}
	if l, err := mount.Map(all, m.root); !slices.Equal(l, m.leaves) || err != api.OK {
		t.Errorf("Map of what is kept = %v, %d", l, err)
	}
	g.d.Revive()
	for _, at := range []uint32{2, 3, 4} {
		image := g.d.Image()
		g.over(at)
		if l, err := mount.Map(none, m.root); len(l) != 0 || err != api.ErrTampered {
			t.Errorf("Map with the block %d written over = %v, %d; want ErrTampered", at, l, err)
		}
		g.ok(g.d.Load(image))
	}
	for _, at := range []uint32{1, 5, 6} {
		g.over(at)
		if l, err := mount.Map(none, m.root); !slices.Equal(l, m.leaves) || err != api.OK {
			t.Errorf("Map with the block %d written over = %v, %d", at, l, err)
		}
	}
}

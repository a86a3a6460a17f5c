package mount_test

import (
	"testing"

	"signet/api"
	"signet/cache"
	"signet/mount"
	"signet/node"
	"signet/super"
)

// 24.2, 24.3: roots and maps that are not what they must be, though their digests are right.

// Parts that are right are mounted, wherever they lie.
func TestWhatIsRightIsMounted(t *testing.T) {
	for _, c := range disks {
		g := right(t, c.blocks).lay(t, c.blocks)
		g.isFresh("laid by hand", g.mount(0), c.mapped)
		m := right(t, c.blocks)
		m.flip(int(m.at))
		m.at = uint32(c.blocks - 1)
		m.flip(int(m.at))
		g = m.lay(t, c.blocks)
		g.isFresh("with its root at the end", g.mount(0), c.mapped)
	}
}

func TestRootsThatAreNone(t *testing.T) {
	for _, blocks := range []int{16, 64, 1025, 8192} {
		for what, seal := range map[string]func(b *api.Block){
			"zeros":               func(b *api.Block) { *b = api.Block{} },
			"junk":                func(b *api.Block) { *b = junk(1) },
			"another mark":        func(b *api.Block) { b[7]++ },
			"a byte behind it":    func(b *api.Block) { b[255] = 1 },
			"a leaf of a table":   func(b *api.Block) { *b = api.Block{0: 2, 2: 1, 16: 1} },
			"a leaf of a map":     func(b *api.Block) { *b = mapOf(t, blocks, 1)[0] },
			"a node":              func(b *api.Block) { *b, _ = node.Block(api.Node{Level: 1}) },
			"fewer blocks":        func(b *api.Block) { b[8], b[9] = 15, 0 },
			"more blocks":         func(b *api.Block) { b[8], b[9] = 1, 32 },
			"no inode":            func(b *api.Block) { b[28] = 0 },
			"five inodes":         func(b *api.Block) { b[28] = 5 },
			"a higher table":      func(b *api.Block) { b[24]++ },
			"a higher map":        func(b *api.Block) { b[68]++ },
			"a table that is 0":   func(b *api.Block) { clear(b[32:68]) },
			"a map that is 0":     func(b *api.Block) { clear(b[72:108]) },
			"one block for both":  func(b *api.Block) { copy(b[72:108], b[32:68]) },
			"two used blocks":     func(b *api.Block) { b[108] = 2 },
			"all blocks are used": func(b *api.Block) { b[108], b[109] = byte(blocks), byte(blocks>>8) },
		} {
			m := right(t, blocks)
			m.seal = seal
			m.lay(t, blocks).unmounted("a root block of "+what, api.ErrSuper, api.ErrSuper, api.Super{})
		}
	}
}

// A root that may be, but not with its slot or on its disk.
func TestRootsThatDoNotFit(t *testing.T) {
	for _, blocks := range []int{64, 1025, 8191} {
		for what, spoil := range map[string]func(m *made){
			"the counter 0":          func(m *made) { m.root.Counter = 0 },
			"the next counter":       func(m *made) { m.root.Counter = 2 },
			"a great counter":        func(m *made) { m.root.Counter = 1<<32 + 1 },
			"a block less":           func(m *made) { m.root.Blocks-- },
			"a block more":           func(m *made) { m.root.Blocks++ },
			"a table in its block":   func(m *made) { m.root.Table.Root.At = m.at },
			"a map in its block":     func(m *made) { m.root.Map.Root = api.Ref{At: m.at} },
			"another digest as well": func(m *made) { m.root.Map.Root = api.Ref{At: m.at, Sum: api.Sum{1}} },
		} {
			m := right(t, blocks)
			spoil(m)
			m.root.Map.Height, _ = super.MapHeight(m.root.Blocks)
			m.lay(t, blocks).unmounted("a root with "+what, api.ErrSuper, api.ErrSuper, api.Super{})
		}
	}
	// On its own disk, and for its own counter, it fits.
	m := right(t, 64)
	g := m.lay(t, 64)
	g.swing(g.slot().Root)
	g.unmounted("a root of the slot ahead", api.ErrSuper, api.ErrSuper, api.Super{})
	m.root.Counter = 2
	b, _ := super.Encode(m.root)
	g = m.lay(t, 64)
	g.swing(g.put(40, b))
	if x, err := mount.Peek(g.d, g.r, g.l); x != m.root || err != api.OK {
		t.Errorf("a root of the second counter: Peek = %+v, %d", x, err)
	}
}

// What a slot names may be no block of the disk.
func TestSlotsThatNameNoBlock(t *testing.T) {
	for _, at := range []uint32{64, 65, 8192, 1 << 31, 1<<32 - 1} {
		g := formatted(t, 64)
		g.swing(api.Ref{At: at, Sum: g.slot().Root.Sum})
		g.unmounted("a slot that names no block", api.ErrTampered, api.ErrTampered, api.Super{})
	}
	g := formatted(t, 64)
	g.swing(api.Ref{At: 50, Sum: g.slot().Root.Sum})
	g.unmounted("a slot that names another block", api.ErrTampered, api.ErrTampered, api.Super{})
}

// wrongMap is a map that is none of its root's: Map tells its leaves, or the error of reading them.
type wrongMap struct {
	what   string
	blocks int
	spoil  func(m *made)
	read   api.Errno
}

// bent is what is done to the nodes of one level of a map.
func bent(level int, do func(n *api.Node)) func(m *made) {
	return func(m *made) {
		m.lift = func(at int, n *api.Node) {
			if at == level {
				do(n)
			}
		}
	}
}

// wrongMaps is maps that are none of their roots'.
func wrongMaps(t *testing.T) []wrongMap {
	l := []wrongMap{
		{"a bit behind the end", 16, func(m *made) { m.flip(2); m.leaves[0][130] = 1 }, api.OK},
		{"a bit far behind the end", 1023, func(m *made) { m.flip(2); m.leaves[0][255] |= 0x80 }, api.OK},
		{"the leaf of a greater disk", 64, func(m *made) { m.leaves = mapOf(t, 1024, 1, 2, 70) }, api.OK},
		{"two leaves the other way round", 1025, func(m *made) { m.leaves[0], m.leaves[1] = m.leaves[1], m.leaves[0] }, api.OK},
		{"one leaf twice", 8192, func(m *made) { m.leaves[7] = m.leaves[6] }, api.OK},
		{"a leaf that is none", 1025, bent(1, func(n *api.Node) { n.Kids[1] = api.Ref{} }), api.OK},
		{"a node that is none", 8192, bent(2, func(n *api.Node) { n.Kids[1] = api.Ref{} }), api.OK},
		{"leaves from the place 1 on", 1025, bent(1, func(n *api.Node) { copy(n.Kids[1:], n.Kids[:2]); n.Kids[0] = api.Ref{} }), api.OK},
		{"a leaf as its root", 1025, func(m *made) { m.root.Map.Root = node.Of(nil, 2, m.leaves[0]) }, api.ErrNode},
		{"a node of another level", 8192, bent(1, func(n *api.Node) { n.Level = 2 }), api.ErrNode},
		{"a root of another level", 4097, bent(2, func(n *api.Node) { n.Level = 1 }), api.ErrNode},
		{"a leaf as a node", 8192, bent(2, func(n *api.Node) {
			n.Kids[1] = node.Of(nil, 2, mapOf(t, 8192, 1, 2, 3, 4, 5, 6, 7, 8, 9, 10, 11, 12, 13)[0])
		}), api.ErrNode},
		{"a leaf of another digest", 2049, bent(1, func(n *api.Node) { n.Kids[2].Sum[31] ^= 1 }), api.ErrTampered},
		{"a leaf of another number", 2049, bent(1, func(n *api.Node) { n.Kids[2].At = 1 }), api.ErrTampered},
		{"a leaf past the disk", 2049, bent(1, func(n *api.Node) { n.Kids[0].At = 2049 }), api.ErrTampered},
		{"a map of another digest", 64, func(m *made) { m.root.Map.Root = api.Ref{At: 2, Sum: api.Sum{9}} }, api.ErrTampered},
		{"a map of another number", 64, func(m *made) { m.root.Map.Root = node.Of(nil, 9, m.leaves[0]) }, api.ErrTampered},
	}
	for _, c := range disks {
		l = append(l, []wrongMap{
			{"a bit of the block 0", c.blocks, func(m *made) { m.flip(0) }, api.OK},
			{"a bit of the block 0 for another one", c.blocks, func(m *made) { m.flip(0); m.flip(2) }, api.OK},
			{"one used block more", c.blocks, func(m *made) { m.flip(c.blocks - 1) }, api.OK},
			{"one used block less", c.blocks, func(m *made) { m.flip(2) }, api.OK},
			{"no used block", c.blocks, func(m *made) { m.leaves = mapOf(t, c.blocks) }, api.OK},
			{"a root that says one more", c.blocks, func(m *made) { m.root.Used++ }, api.OK},
			{"a root that says many more", c.blocks, func(m *made) { m.root.Used = c.blocks - 1 }, api.OK},
			{"another mark", c.blocks, func(m *made) { m.leaves[0][3]++ }, api.OK},
			{"another number of a leaf", c.blocks, func(m *made) { m.leaves[len(m.leaves)-1][4]++ }, api.OK},
			{"a byte ahead of the bits", c.blocks, func(m *made) { m.leaves[0][127] = 1 }, api.OK},
			{"a leaf of zeros", c.blocks, func(m *made) { m.leaves[0] = api.Block{} }, api.OK},
			{"a leaf of junk", c.blocks, func(m *made) { m.leaves[len(m.leaves)-1] = junk(3) }, api.OK},
		}...)
	}
	return l
}

func TestMapsThatAreWrong(t *testing.T) {
	for _, c := range wrongMaps(t) {
		m := right(t, c.blocks)
		c.spoil(m)
		g := m.lay(t, c.blocks)
		want := c.read
		if want == api.OK {
			want = api.ErrMap
		}
		g.unmounted(c.what, want, api.OK, m.root)
		k, err := cache.New(g.d, g.l, 0)
		g.ok(err)
		if l, err := mount.Map(k, m.root); err != c.read || (len(l) > 0) == (err != api.OK) {
			t.Errorf("%s: Map = %d leaves, %d; want %d", c.what, len(l), err, c.read)
		}
	}
}

// As many used blocks as the root says: then it is mounted, whichever they are.
func TestOtherUsedBlocks(t *testing.T) {
	for _, c := range disks {
		m := right(t, c.blocks)
		m.flip(c.blocks - 1)
		m.root.Used++
		if s := m.lay(t, c.blocks).mount(0); s.Room().State(uint32(c.blocks-1)) != api.RoomUsed || s.Root() != m.root {
			t.Errorf("of %d blocks the last one is not used", c.blocks)
		}
	}
}

// Nothing of the table is read: what it lacks is met later.
func TestMountReadsNoTable(t *testing.T) {
	m := right(t, 64)
	m.root.Table.Root.Sum[0] ^= 1
	g := m.lay(t, 64)
	s := g.mount(100)
	if x, err := s.Inodes().Get(1); x != (api.Info{}) || err != api.ErrTampered {
		t.Errorf("Get = %+v, %d; want ErrTampered", x, err)
	}
	// A table of any height that its inodes need.
	for inodes, height := range map[int]int{4: 0, 5: 1, 17: 2, 65: 3, 257: 4, 1025: 5, 4096: 5} {
		m := right(t, 64)
		m.root.Inodes, m.root.Table.Height = inodes, height
		g := m.lay(t, 64)
		if s := g.mount(0); s.Root() != m.root {
			t.Errorf("the root is %+v; want %+v", s.Root(), m.root)
		}
		for _, raw := range g.d.Log() {
			if raw.Kind == api.RawRead && raw.At == 1 {
				t.Errorf("with %d inodes the table is read", inodes)
			}
		}
	}
}

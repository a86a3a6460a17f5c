package commit_test

import (
	"math"
	"slices"
	"testing"

	"signet/api"
	"signet/cache"
	"signet/commit"
	"signet/disk"
	"signet/room"
)

// 21.1

// disks is numbers of blocks, at both edges of each stretch with one map.
var disks = []struct{ blocks, mapped int }{
	{16, 1}, {17, 1}, {1023, 1}, {1024, 1},
	{1025, 3}, {2048, 3}, {2049, 4}, {3072, 4}, {3073, 5}, {4095, 5}, {4096, 5},
	{4097, 8}, {5120, 8}, {5121, 9}, {6144, 9}, {6145, 10}, {7168, 10}, {7169, 11}, {8191, 11}, {8192, 11},
}

func TestMap(t *testing.T) {
	for _, d := range disks {
		if n, err := commit.Map(d.blocks); n != d.mapped || err != api.OK {
			t.Errorf("Map(%d) = %d, %d; want %d", d.blocks, n, err, d.mapped)
		}
	}
	for blocks := api.MinBlocks; blocks <= api.MaxBlocks; blocks++ {
		if n, err := commit.Map(blocks); n != mapBlocks(blocks) || err != api.OK {
			t.Errorf("Map(%d) = %d, %d; want %d", blocks, n, err, mapBlocks(blocks))
		}
	}
	for _, blocks := range []int{15, 14, 1, 0, -1, -16, -1024, 8193, 8194, 9216, 1 << 31, 1 << 32, 1<<32 + 16, math.MaxInt, math.MaxInt - 1023, math.MinInt, math.MinInt + 1024} {
		if n, err := commit.Map(blocks); n != 0 || err != api.ErrArg {
			t.Errorf("Map(%d) = %d, %d; want ErrArg", blocks, n, err)
		}
	}
}

func TestNewOnAllDisks(t *testing.T) {
	for _, d := range disks {
		k := made(t, d.blocks, 0, scattered)
		if r := k.s.Root(); r.Used != d.mapped+2 || r.Blocks != d.blocks {
			t.Errorf("of %d blocks the root is %+v", d.blocks, r)
		}
	}
}

// refused asks that there is no state on parts.
func refused(t *testing.T, what string, p parts) {
	t.Helper()
	if s, err := p.state(); s != nil || err != api.ErrArg {
		t.Errorf("New with %s = %v, %d; want nil, ErrArg", what, s, err)
	}
}

// standing is the parts of a system with something committed, which are right.
func standing(t *testing.T, blocks int) parts {
	t.Helper()
	k := scene{"", blocks, scattered, some, func(*system) {}}.set(t, 8)
	p, _ := partsOf(t, k.d, k.r, nil, 8)
	if s, err := p.state(); s == nil || err != api.OK {
		t.Fatalf("New = %v, %d", s, err)
	}
	return p
}

func TestNewOfNil(t *testing.T) {
	for which := 1; which < 16; which++ {
		p := standing(t, 64)
		what := "nil:"
		if which&1 != 0 {
			p.r, what = nil, what+" register"
		}
		if which&2 != 0 {
			p.c, what = nil, what+" cache"
		}
		if which&4 != 0 {
			p.m, what = nil, what+" room"
		}
		if which&8 != 0 {
			p.x, what = nil, what+" inodes"
		}
		refused(t, what, p)
	}
}

// A root that does not fit the slot or the disk, or that may not be.
func TestNewOfOtherRoots(t *testing.T) {
	for what, spoil := range map[string]func(p *parts){
		"a slot of a lower counter":         func(p *parts) { p.slot.Counter-- },
		"a slot of a higher counter":        func(p *parts) { p.slot.Counter++ },
		"a root of another counter":         func(p *parts) { p.root.Counter = 0 },
		"the zero slot":                     func(p *parts) { p.slot = api.Slot{} },
		"a slot that names no block":        func(p *parts) { p.slot.Root.At = 0 },
		"a slot that names a block too far": func(p *parts) { p.slot.Root.At = 64 },
		"a slot that names one far away":    func(p *parts) { p.slot.Root.At = math.MaxUint32 },
		"a slot that names the table":       func(p *parts) { p.slot.Root.At = p.root.Table.Root.At },
		"a slot that names the map":         func(p *parts) { p.slot.Root.At = p.root.Map.Root.At },
		"the zero root":                     func(p *parts) { p.root = api.Super{} },
		"a root of fewer blocks":            func(p *parts) { p.root.Blocks-- },
		"a root of more blocks":             func(p *parts) { p.root.Blocks++ },
		"a root of no inode":                func(p *parts) { p.root.Inodes = 0 },
		"a root of too many inodes":         func(p *parts) { p.root.Inodes = 4097 },
		"a table that is too low":           func(p *parts) { p.root.Table.Height-- },
		"a table that is too high":          func(p *parts) { p.root.Table.Height++ },
		"a map that is too high":            func(p *parts) { p.root.Map.Height++ },
		"a table in the map's block":        func(p *parts) { p.root.Table.Root.At = p.root.Map.Root.At },
		"a table that is none":              func(p *parts) { p.root.Table.Root = api.Ref{} },
		"a map that is none":                func(p *parts) { p.root.Map.Root = api.Ref{} },
		"a map too far":                     func(p *parts) { p.root.Map.Root.At = 64 },
		"one used block less in the root":   func(p *parts) { p.root.Used-- },
		"one used block more in the root":   func(p *parts) { p.root.Used++ },
		"as many used blocks as blocks":     func(p *parts) { p.root.Used = 64 },
		"no used blocks":                    func(p *parts) { p.root.Used = 0 },
	} {
		p := standing(t, 64)
		spoil(&p)
		refused(t, what, p)
	}
}

// A root that does fit its slot, but a disk of another number of blocks.
func TestNewOnOtherDisks(t *testing.T) {
	for _, blocks := range []int{16, 63, 65, 1025, 8192} {
		p := standing(t, 64)
		d, _ := disk.New(blocks)
		p.c, _ = cache.New(d, nil, 0)
		refused(t, "a disk of other blocks", p)
		// The room has just as many as the disk, but the root has not.
		p.m, _, _ = room.New(blocks, p.m.List(api.RoomUsed))
		refused(t, "a disk and a room of other blocks", p)
	}
}

func TestNewOfOtherRooms(t *testing.T) {
	p := standing(t, 64)
	used, free := p.m.List(api.RoomUsed), p.m.List(api.RoomFree)
	with := func(what string, blocks int, used []uint32, right bool) {
		t.Helper()
		q := p
		var err api.Errno
		if q.m, _, err = room.New(blocks, used); err != api.OK {
			t.Fatal(err)
		}
		if !right {
			refused(t, what, q)
		} else if s, err := q.state(); s == nil || err != api.OK {
			t.Errorf("New with %s = %v, %d", what, s, err)
		}
	}
	with("just its used blocks", 64, used, true)
	with("one used block less", 64, used[1:], false)
	with("one used block more", 64, append(slices.Clone(used), free[0]), false)
	with("no used block", 64, nil, false)
	with("all blocks used", 64, slices.Concat(used, free), false)
	with("a block less", 63, used, false)
	with("a block more", 65, used, false)
	with("many blocks more", 8192, used, false)
}

// What was taken is not used yet; what was let go is used still.
func TestNewOfRoomsInUse(t *testing.T) {
	p := standing(t, 64)
	p.m.Take()
	if s, err := p.state(); s == nil || err != api.OK {
		t.Errorf("New with a block that was taken = %v, %d", s, err)
	}
	p = standing(t, 64)
	p.m.Let(p.slot.Root.At)
	refused(t, "a block that was let go", p)
	p.root.Used--
	refused(t, "a block that was let go, and one used less", p)
	p = standing(t, 64)
	p.m.Take()
	p.m.Swing()
	refused(t, "a block that was taken, behind a swing", p)
	p.root.Used++
	if s, err := p.state(); s == nil || err != api.OK {
		t.Errorf("New with a block that was taken, behind a swing, and one used more = %v, %d", s, err)
	}
}

// New neither writes nor asks for what can't be read: the inodes are read later.
func TestNewOnDisksThatCannotBeRead(t *testing.T) {
	for _, blocks := range []int{64, 4097} {
		for what, spoil := range map[string]func(d *disk.Disk){
			"a dead disk":        func(d *disk.Disk) { d.Cut(api.Cut{Event: d.Events()}); d.Event() },
			"a disk of zeros":    func(d *disk.Disk) { d.Load(make([]api.Block, d.Blocks())) },
			"an unspoilt disk":   func(*disk.Disk) {},
			"a disk of the junk": func(d *disk.Disk) { d.Load(slices.Repeat([]api.Block{junk()}, d.Blocks())) },
		} {
			p := standing(t, blocks)
			spoil(p.c.Disk())
			image, events := p.c.Disk().Image(), p.c.Disk().Events()
			s, err := p.state()
			if s == nil || err != api.OK {
				t.Fatalf("New on %s = %v, %d", what, s, err)
			}
			if !slices.Equal(p.c.Disk().Image(), image) || p.c.Disk().Events() != events {
				t.Errorf("New on %s wrote something", what)
			}
			if s.Slot() != p.slot || s.Root() != p.root || s.Dead() {
				t.Errorf("New on %s is a state of %v, %v, dead: %v", what, s.Slot(), s.Root(), s.Dead())
			}
			if n, err := s.New(); n != 0 || err != api.OK {
				t.Errorf("on %s New = %d, %d", what, n, err)
			}
			if err := s.Commit(); err != api.OK || s.Dead() {
				t.Errorf("on %s a commit of nothing = %d", what, err)
			}
		}
	}
}

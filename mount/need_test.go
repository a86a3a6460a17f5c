package mount_test

import (
	"math"
	"testing"

	"signet/api"
	"signet/commit"
	"signet/mount"
)

// 24.3

func TestLeast(t *testing.T) {
	for _, c := range disks {
		if n, err := mount.Least(c.blocks); n != c.mapped+2 || err != api.OK {
			t.Errorf("Least(%d) = %d, %d; want %d", c.blocks, n, err, c.mapped+2)
		}
	}
	for blocks := api.MinBlocks; blocks <= api.MaxBlocks; blocks++ {
		if n, err := mount.Least(blocks); n != mapBlocks(blocks)+2 || err != api.OK {
			t.Errorf("Least(%d) = %d, %d; want %d", blocks, n, err, mapBlocks(blocks)+2)
		}
	}
	for _, blocks := range []int{15, 14, 2, 1, 0, -1, -16, -1024, 8193, 8194, 9216, 1 << 31, 1 << 32, 1<<32 + 16, math.MaxInt, math.MinInt} {
		if n, err := mount.Least(blocks); n != 0 || err != api.ErrSuper {
			t.Errorf("Least(%d) = %d, %d; want ErrSuper", blocks, n, err)
		}
	}
}

// 24.5

// needs is how many blocks files of some sizes take, written out: at each height's greatest size and one byte more.
var needs = []struct{ size, blocks int }{
	{0, 0}, {1, 1}, {2, 1}, {255, 1}, {256, 1},
	{257, 2 + 1}, {511, 2 + 1}, {512, 2 + 1}, {513, 3 + 1}, {768, 3 + 1}, {769, 4 + 1}, {1023, 4 + 1}, {1024, 4 + 1},
	{1025, 5 + 2 + 1}, {1280, 5 + 2 + 1}, {1281, 6 + 2 + 1}, {2048, 8 + 2 + 1}, {2049, 9 + 3 + 1}, {4095, 16 + 4 + 1}, {4096, 16 + 4 + 1},
	{4097, 17 + 5 + 2 + 1}, {4352, 17 + 5 + 2 + 1}, {5121, 21 + 6 + 2 + 1}, {16384, 64 + 16 + 4 + 1},
	{16385, 65 + 17 + 5 + 2 + 1}, {65536, 256 + 64 + 16 + 4 + 1},
	{65537, 257 + 65 + 17 + 5 + 2 + 1}, {262144, 1024 + 256 + 64 + 16 + 4 + 1},
	{262145, 1025 + 257 + 65 + 17 + 5 + 2 + 1}, {1048575, 4096 + 1024 + 256 + 64 + 16 + 4 + 1}, {1048576, 4096 + 1024 + 256 + 64 + 16 + 4 + 1},
}

func TestNeed(t *testing.T) {
	for _, c := range needs {
		if n, err := mount.Need(c.size); n != c.blocks || err != api.OK {
			t.Errorf("Need(%d) = %d, %d; want %d", c.size, n, err, c.blocks)
		}
	}
	for _, size := range []int{-1, -2, -255, -256, -257, -1048576, math.MinInt, 1048577, 1048832, 1 << 31, 1 << 32, 1<<32 + 1, math.MaxInt, math.MaxInt - 255} {
		if n, err := mount.Need(size); n != 0 || err != api.ErrArg {
			t.Errorf("Need(%d) = %d, %d; want ErrArg", size, n, err)
		}
	}
}

// Of each size, counted level by level up to the one node or leaf at the top.
func TestNeedOfAllSizes(t *testing.T) {
	for size := 1; size <= api.MaxFile; size++ {
		level := (size-1)/256 + 1
		want := level
		for level > 1 {
			level = (level-1)/4 + 1
			want += level
		}
		if n, err := mount.Need(size); n != want || err != api.OK {
			t.Fatalf("Need(%d) = %d, %d; want %d", size, n, err, want)
		}
	}
}

// grows makes a file of so many bytes, the inode 2, none of whose leaves is all zero.
func (g rig) grows(s *commit.State, size int) {
	g.t.Helper()
	x := s.Inodes()
	if n, err := x.Make(api.KindFile, s.Stamp()); n != 2 || err != api.OK {
		g.t.Fatalf("Make = %d, %d", n, err)
	}
	g.ok(x.Resize(2, size, s.Stamp()))
	for place := 0; 256*place < size; place++ {
		g.ok(x.Set(2, place, api.Block{0: 1, 1: byte(place), 2: byte(place >> 8)}, s.Stamp()))
	}
}

// Need is what a commit of such a file writes, but for the table's leaf, the map and the root block.
func TestNeedIsWhatIsWritten(t *testing.T) {
	for _, c := range needs {
		g := formatted(t, 8192)
		s := g.mount(0)
		g.grows(s, c.size)
		if n, err := s.New(); n != c.blocks+1+11+1 || err != api.OK {
			t.Errorf("of %d bytes %d would be new, %d; want %d", c.size, n, err, c.blocks+13)
		}
		g.left(s, 8191-13-13-c.blocks)
	}
}

// left asks how many blocks are left.
func (g rig) left(s *commit.State, want int) {
	g.t.Helper()
	at := g.stands()
	for range 2 {
		if n, err := mount.Left(s); n != want || err != api.OK {
			g.t.Errorf("Left = %d, %d; want %d", n, err, want)
		}
	}
	fits := api.OK
	if want < 0 {
		fits = api.ErrNoSpace
	}
	if err := s.Fits(); err != fits {
		g.t.Errorf("with %d left Fits = %d; want %d", want, err, fits)
	}
	g.unwritten("Left", at)
}

func TestLeftOfAFreshSystem(t *testing.T) {
	for _, c := range disks {
		g := formatted(t, c.blocks)
		s := g.mount(0)
		g.left(s, c.blocks-1-c.mapped-2)
		// The table's leaf, the map and the root block would be new: as many as are used.
		g.ok(s.Inodes().Touch(1, 9))
		g.left(s, c.blocks-1-2*(c.mapped+2))
		g.ok(s.Commit())
		g.left(s, c.blocks-1-c.mapped-2)
		g.left(g.mount(9), c.blocks-1-c.mapped-2)
	}
}

// Of 16 blocks 3 are used, and a file of 6 leaves needs 9 and 3 more; of 7 leaves one too many.
func TestLeftOfAFullSystem(t *testing.T) {
	g := formatted(t, 16)
	s := g.mount(0)
	g.grows(s, 6*256)
	g.left(s, 0)
	g.ok(s.Inodes().Resize(2, 6*256+1, 2))
	g.left(s, 0)
	g.ok(s.Inodes().Set(2, 6, api.Block{1}, 2))
	g.left(s, -1)
	if err := s.Commit(); err != api.ErrNoSpace {
		t.Errorf("Commit = %d; want ErrNoSpace", err)
	}
	g.left(s, -1)
	g.ok(s.Inodes().Resize(2, 16*256, 2))
	for place := range 16 {
		g.ok(s.Inodes().Set(2, place, api.Block{2}, 2))
	}
	g.left(s, 15-3-16-4-1-3)
	g.ok(s.Inodes().Resize(2, 6*256, 2), s.Commit())
	g.left(s, 3)
	g.ok(s.Inodes().Touch(1, 9))
	g.left(s, 0)
	g.ok(s.Inodes().Set(2, 0, api.Block{7}, 3))
	g.left(s, -3)
	g.ok(s.Inodes().Drop(2))
	g.left(s, 0)
	g.ok(s.Commit())
	g.left(s, 12)
}

// Left of a dead state, and of a nil one.
func TestLeftWithoutPower(t *testing.T) {
	none := func(what string, s *commit.State, want api.Errno) {
		t.Helper()
		if n, err := mount.Left(s); n != 0 || err != want {
			t.Errorf("%s: Left = %d, %d; want 0, %d", what, n, err, want)
		}
	}
	none("nil", nil, api.ErrCut)
	g := formatted(t, 64)
	s := g.mount(0)
	g.ok(s.Inodes().Touch(1, 9))
	g.dies()
	if err := s.Commit(); err != api.ErrCut {
		t.Fatalf("Commit = %d", err)
	}
	none("dead", s, api.ErrCut)
	g.d.Revive()
	none("dead, with power again", s, api.ErrCut)
	g.left(g.mount(0), 60)

	// Where what would be new can't be told, as blocks can't be read.
	s = g.mount(0)
	g.grows(s, 5*256)
	g.ok(s.Commit())
	s = g.mount(0)
	g.ok(s.Inodes().Resize(2, 256, 3))
	image := g.d.Image()
	g.over(s.Room().List(api.RoomUsed)...)
	if _, err := s.New(); err != api.ErrTampered {
		t.Fatalf("New = %d; want ErrTampered", err)
	}
	none("written over", s, api.ErrTampered)
	g.dies()
	none("without power", s, api.ErrCut)
	g.d.Revive()
	g.ok(g.d.Load(image))
	if n, err := s.New(); err != api.OK {
		t.Errorf("New = %d, %d", n, err)
	}
	g.left(s, 63-3-8-3)
}

package super_test

import (
	"math"
	"testing"

	"signet/api"
	"signet/bits"
	"signet/inode"
	"signet/super"
)

// 20.1

func TestCheck(t *testing.T) {
	for _, x := range rights() {
		if err := super.Check(x); err != api.OK {
			t.Errorf("Check(%+v) = %d; want OK", x, err)
		}
	}
	for _, x := range wrongs() {
		if err := super.Check(x); err != api.ErrSuper {
			t.Errorf("Check(%+v) = %d; want ErrSuper", x, err)
		}
	}
}

// wantCheck asks whether a root may be, or not.
func wantCheck(t *testing.T, x api.Super, may bool) {
	t.Helper()
	want := api.ErrSuper
	if may {
		want = api.OK
	}
	if err := super.Check(x); err != want {
		t.Errorf("Check(%+v) = %d; want %d", x, err, want)
	}
}

func TestBlocksAtTheirEdges(t *testing.T) {
	for blocks, may := range map[int]bool{15: false, 16: true, 17: true, 8191: true, 8192: true, 8193: false, 0: false, -16: false, math.MaxInt: false, math.MinInt: false} {
		x := smallest()
		x.Blocks = blocks
		if blocks > 4096 {
			x.Map.Height = 2
		}
		wantCheck(t, x, may)
	}
}

func TestInodesAtTheirEdges(t *testing.T) {
	for inodes, height := range map[int]int{1: 0, 4096: 5} {
		x := plain()
		x.Inodes, x.Table.Height = inodes, height
		wantCheck(t, x, true)
	}
	for _, inodes := range append([]int{0, 4097, 16384}, wrongInts...) {
		for height := range 8 {
			x := plain()
			x.Inodes, x.Table.Height = inodes, height
			wantCheck(t, x, false)
		}
	}
}

// Of all numbers of inodes just one height may be: that of the table in chapter 14.
func TestHeightsOfTheTable(t *testing.T) {
	for inodes := 1; inodes <= api.MaxInodes; inodes++ {
		right, err := inode.Table(inodes)
		if err != api.OK {
			t.Fatalf("inode.Table(%d): error %d", inodes, err)
		}
		for height := -1; height <= 7; height++ {
			x := plain()
			x.Inodes, x.Table.Height = inodes, height
			wantCheck(t, x, height == right)
		}
	}
}

// Of all numbers of blocks just one height may be.
func TestHeightsOfTheMap(t *testing.T) {
	for blocks := api.MinBlocks; blocks <= api.MaxBlocks; blocks++ {
		right := leastFor((blocks + 1023) / 1024)
		for height := -1; height <= 7; height++ {
			x := smallest()
			x.Blocks, x.Map.Height = blocks, height
			wantCheck(t, x, height == right)
		}
	}
}

func TestPlacesAtTheirEdges(t *testing.T) {
	for _, d := range disks {
		x := api.Super{Blocks: d.blocks, Table: with(0, 3, sum(1)), Inodes: 1, Map: with(d.height, 5, sum(2)), Used: 3}
		last := uint32(d.blocks - 1)
		for at, may := range map[uint32]bool{0: false, 1: true, last: true, last + 1: false, last + 2: false, 1 << 31: false, math.MaxUint32: false} {
			y, z := x, x
			y.Table.Root.At, z.Map.Root.At = at, at
			wantCheck(t, y, may)
			wantCheck(t, z, may)
		}
		y, z := x, x
		y.Table.Root.At, z.Map.Root.At = 5, 3
		wantCheck(t, y, false)
		wantCheck(t, z, false)
	}
}

// What the digests are has no part in whether a root may be: those of zeros may be, and both alike.
func TestDigestsAreFree(t *testing.T) {
	for _, s := range []api.Sum{{}, {1}, {31: 0x80}, sum(3), full()} {
		x := plain()
		x.Table.Root.Sum, x.Map.Root.Sum = s, s
		wantCheck(t, x, true)
	}
}

func TestUsedAtItsEdges(t *testing.T) {
	for _, d := range disks {
		for used, may := range map[int]bool{-1: false, 0: false, 1: false, 2: false, 3: true, 4: true, d.blocks - 2: true, d.blocks - 1: true, d.blocks: false, d.blocks + 1: false, math.MaxInt: false, math.MinInt: false} {
			x := api.Super{Blocks: d.blocks, Table: with(0, 3, sum(1)), Inodes: 1, Map: with(d.height, 5, sum(2)), Used: used}
			wantCheck(t, x, may)
		}
	}
}

func TestEachCounterMayBe(t *testing.T) {
	for _, counter := range counters {
		x := plain()
		x.Counter = counter
		wantCheck(t, x, true)
	}
}

// 20.2

func TestMapHeightAndMapLeaves(t *testing.T) {
	for _, d := range disks {
		if height, err := super.MapHeight(d.blocks); height != d.height || err != api.OK {
			t.Errorf("MapHeight(%d) = %d, %d; want %d", d.blocks, height, err, d.height)
		}
		if leaves, err := super.MapLeaves(d.blocks); leaves != d.leaves || err != api.OK {
			t.Errorf("MapLeaves(%d) = %d, %d; want %d", d.blocks, leaves, err, d.leaves)
		}
	}
}

func TestMapOfAllDisks(t *testing.T) {
	for blocks := api.MinBlocks; blocks <= api.MaxBlocks; blocks++ {
		m, err := bits.New(blocks)
		if err != api.OK {
			t.Fatalf("bits.New(%d): error %d", blocks, err)
		}
		want := len(m.Leaves())
		if leaves, err := super.MapLeaves(blocks); leaves != want || err != api.OK {
			t.Errorf("MapLeaves(%d) = %d, %d; want %d", blocks, leaves, err, want)
		}
		if height, err := super.MapHeight(blocks); height != leastFor(want) || err != api.OK {
			t.Errorf("MapHeight(%d) = %d, %d; want %d", blocks, height, err, leastFor(want))
		}
	}
}

func TestMapOfNoDisk(t *testing.T) {
	for _, blocks := range append([]int{0, 1, 14, 15, 8193, 8194, 9216, 16384}, wrongInts...) {
		if height, err := super.MapHeight(blocks); height != 0 || err != api.ErrSuper {
			t.Errorf("MapHeight(%d) = %d, %d; want ErrSuper alone", blocks, height, err)
		}
		if leaves, err := super.MapLeaves(blocks); leaves != 0 || err != api.ErrSuper {
			t.Errorf("MapLeaves(%d) = %d, %d; want ErrSuper alone", blocks, leaves, err)
		}
	}
}

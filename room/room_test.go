package room_test

import (
	"math"
	"slices"
	"testing"

	"signet/api"
	"signet/bits"
	"signet/room"
)

// 12.1

func TestNewWithoutUsedBlocks(t *testing.T) {
	for _, blocks := range numbers {
		for _, none := range [][]uint32{nil, {}} {
			r, place, err := room.New(blocks, none)
			if place != 0 || err != api.OK {
				t.Fatalf("New(%d) = %d, %d", blocks, place, err)
			}
			holds(t, "without used blocks", r, of(blocks))
		}
	}
}

func TestNewWithUsedBlocks(t *testing.T) {
	for _, blocks := range numbers {
		last := uint32(blocks - 1)
		all := make([]uint32, last)
		for i := range all {
			all[i] = last - uint32(i)
		}
		for _, used := range [][]uint32{{1}, {last}, {1, last}, {last, 1}, {7, 3, 5}, all} {
			holds(t, "with used blocks", made(t, blocks, used...), of(blocks, used...))
		}
	}
}

func TestNewWithWrongNumbersOfBlocks(t *testing.T) {
	for _, blocks := range wrongNumbers {
		// The number of blocks is told ahead of what is wrong with those that are used.
		for _, used := range [][]uint32{nil, {1}, {0}, {1, 1}, {2, math.MaxUint32}} {
			if r, place, err := room.New(blocks, used); r != nil || place != 0 || err != api.ErrBlocks {
				t.Errorf("New(%d, %v) = %v, %d, %d; want ErrBlocks", blocks, used, r, place, err)
			}
		}
	}
}

func TestNewWithWrongBlocks(t *testing.T) {
	for _, blocks := range numbers {
		n := uint32(blocks)
		for _, c := range []struct {
			used  []uint32
			place int
		}{
			{[]uint32{0}, 0},
			{[]uint32{n}, 0},
			{[]uint32{n + 1}, 0},
			{[]uint32{math.MaxUint32}, 0},
			{[]uint32{1 << 31}, 0},
			{[]uint32{n - 1, n}, 1},
			{[]uint32{1, 2, 0}, 2},
			{[]uint32{3, 2, 1, math.MaxUint32}, 3},
			{[]uint32{1, 1}, 1},
			{[]uint32{1, 2, 1}, 2},
			{[]uint32{n - 1, n - 1}, 1},
			{[]uint32{5, 4, 3, 4, 5}, 3},
			{[]uint32{5, 5, 5}, 1},
			{[]uint32{0, 0}, 0},
			// Two faults: the first is told.
			{[]uint32{0, n}, 0},
			{[]uint32{1, n, 0}, 1},
			{[]uint32{1, 1, n}, 1},
			{[]uint32{1, 2, math.MaxUint32, 2}, 2},
			{[]uint32{4, 0, 4}, 1},
		} {
			if r, place, err := room.New(blocks, c.used); r != nil || place != c.place || err != api.ErrBlock {
				t.Errorf("New(%d, %v) = %v, %d, %d; want %d, ErrBlock", blocks, c.used, r, place, err, c.place)
			}
		}
	}
}

func TestLoad(t *testing.T) {
	for _, blocks := range numbers {
		last := uint32(blocks - 1)
		for _, used := range [][]uint32{nil, {1}, {last}, {1, 2, 9, last}} {
			p := of(blocks, used...)
			r, err := room.Load(blocks, p.leaves())
			if err != api.OK {
				t.Fatalf("Load(%d, those of %v) = %d", blocks, used, err)
			}
			holds(t, "that was loaded", r, p)
		}
	}
}

func TestLoadWithWrongNumbersOfBlocks(t *testing.T) {
	for _, blocks := range wrongNumbers {
		for _, leaves := range [][]api.Block{nil, of(16).leaves(), of(8192).leaves(), make([]api.Block, 9)} {
			if r, err := room.Load(blocks, leaves); r != nil || err != api.ErrBlocks {
				t.Errorf("Load(%d, %d leaves) = %v, %d; want ErrBlocks", blocks, len(leaves), r, err)
			}
		}
	}
	// There is a map of so many bits, but no room of so many blocks.
	m, err := bits.Of(api.MinBlocks-1, 1)
	if err != api.OK {
		t.Fatal(err)
	}
	if r, err := room.Load(api.MinBlocks-1, m.Leaves()); r != nil || err != api.ErrBlocks {
		t.Errorf("Load(15) = %v, %d; want ErrBlocks", r, err)
	}
}

// noMap asks that leaves are refused.
func noMap(t *testing.T, what string, blocks int, leaves []api.Block) {
	t.Helper()
	if r, err := room.Load(blocks, leaves); r != nil || err != api.ErrMap {
		t.Errorf("%s: Load(%d, %d leaves) = %v, %d; want ErrMap", what, blocks, len(leaves), r, err)
	}
}

func TestLoadOfWrongNumbersOfLeaves(t *testing.T) {
	for _, blocks := range numbers {
		l := of(blocks, 1, 5).leaves()
		noMap(t, "a leaf too few", blocks, l[:len(l)-1])
		noMap(t, "a leaf too many", blocks, append(slices.Clone(l), api.Block{}))
		next := api.Block{'b', 'i', 't', 's', byte(len(l))}
		noMap(t, "the next leaf", blocks, append(slices.Clone(l), next))
		noMap(t, "no leaves", blocks, nil)
	}
}

func TestLoadOfOtherLeaves(t *testing.T) {
	for _, blocks := range []int{1025, 2049, api.MaxBlocks} {
		l := of(blocks, 1, 5).leaves()
		l[0], l[1] = l[1], l[0]
		noMap(t, "another order", blocks, l)
		l = of(blocks, 1, 5).leaves()
		l[1] = l[0]
		noMap(t, "one leaf twice", blocks, l)
	}
	noMap(t, "a leaf of zeros", 16, make([]api.Block, 1))
	noMap(t, "a leaf of another word", 16, []api.Block{{'n', 'o', 'd', 'e'}})
}

// Each byte ahead of the bits is fixed, and so is each bit behind the end.
func TestLoadOfSpoiltLeaves(t *testing.T) {
	for _, blocks := range []int{16, 17, 1024, 1025, 1500, api.MaxBlocks} {
		good := of(blocks, 1, 5).leaves()
		for k := range good {
			for at := range 128 {
				l := slices.Clone(good)
				l[k][at] ^= 1 << (at % 8)
				noMap(t, "a spoilt byte", blocks, l)
			}
		}
		for behind := blocks; behind < 1024*len(good); behind++ {
			l := slices.Clone(good)
			l[behind>>10][128+((behind&1023)>>3)] |= 1 << (behind & 7)
			noMap(t, "a bit behind the end", blocks, l)
		}
	}
}

func TestLoadWithTheBitOf0(t *testing.T) {
	for _, blocks := range numbers {
		for _, used := range [][]uint32{nil, {1}, {1, 2, uint32(blocks - 1)}} {
			l := of(blocks, used...).leaves()
			l[0][128] |= 1
			noMap(t, "the bit of 0", blocks, l)
		}
	}
}

// R4

func TestWhatIsHandedInStays(t *testing.T) {
	list := []uint32{7, 3, 5, 99, 98}
	r := made(t, 16, list[:3]...)
	takes(t, r, 1, 2)
	lets(t, r, 7)
	r.Swing()
	if want := []uint32{7, 3, 5, 99, 98}; !slices.Equal(list, want) {
		t.Errorf("the list is %v; want %v", list, want)
	}
	// Nor is it kept.
	list[0], list[1] = 11, 12
	p := of(16, 1, 2, 3, 5)
	holds(t, "whose list was changed", r, p)

	leaves := append(of(16, 3, 5).leaves(), api.Block{1})
	was := slices.Clone(leaves)
	r, err := room.Load(16, leaves[:1])
	if err != api.OK {
		t.Fatal(err)
	}
	takes(t, r, 1, 2)
	lets(t, r, 3)
	r.Swing()
	if !slices.Equal(leaves, was) {
		t.Error("the leaves that were handed in are changed")
	}
	leaves[0] = api.Block{}
	holds(t, "whose leaves were changed", r, of(16, 1, 2, 5))
}

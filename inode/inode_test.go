package inode_test

import (
	"math"
	"math/rand/v2"
	"testing"

	"signet/api"
	"signet/inode"
)

// The model that other tests ask is itself held against the lists that are written out.
func TestLists(t *testing.T) {
	for _, h := range heights {
		if heightOf(h.size) != h.height {
			t.Errorf("heightOf(%d) = %d; want %d", h.size, heightOf(h.size), h.height)
		}
	}
	for _, x := range rights() {
		if !mayBe(x) {
			t.Errorf("%+v may not be", x)
		}
	}
	for _, x := range wrongs() {
		if mayBe(x) {
			t.Errorf("%+v may be", x)
		}
	}
}

func TestCheck(t *testing.T) {
	for _, x := range rights() {
		if err := inode.Check(x); err != api.OK {
			t.Errorf("Check(%+v) = %d; want OK", x, err)
		}
	}
	for _, x := range wrongs() {
		if err := inode.Check(x); err != api.ErrInode {
			t.Errorf("Check(%+v) = %d; want ErrInode", x, err)
		}
	}
}

func wantCheck(t *testing.T, x api.Inode) {
	t.Helper()
	want := api.OK
	if !mayBe(x) {
		want = api.ErrInode
	}
	if err := inode.Check(x); err != want {
		t.Errorf("Check(%+v) = %d; want %d", x, err, want)
	}
}

// Each kind beside each number of links, and the size and the tree of none, of one leaf and of more.
func TestCheckOfKindsAndLinks(t *testing.T) {
	kinds := []int{0, 1, 2, 3, 4, -1, -2, 255, 256, 257, 258, 1 << 16, 1<<32 + 1, math.MinInt, math.MaxInt}
	links := []int{-1, 0, 1, 2, 3, 999, 1000, 1001, 1 << 16, 1<<16 + 1, 1<<32 + 1, math.MinInt, math.MinInt + 1, math.MaxInt}
	for _, kind := range kinds {
		for _, link := range links {
			for _, size := range []int{0, 64, 320} {
				wantCheck(t, api.Inode{Kind: kind, Links: link, Size: size, Tree: with(heightOf(size), api.Ref{})})
			}
		}
	}
}

// All sizes up to one behind the greatest of height 2, and those around all edges.
func TestCheckOfSizesAndHeights(t *testing.T) {
	sizes := []int{-1, -64, math.MinInt, math.MaxInt, math.MaxInt - 63}
	for size := range 4200 {
		sizes = append(sizes, size)
	}
	for _, edge := range []int{16384, 65536, 262144, 1048576, 1 << 22, 1 << 32} {
		for off := -65; off <= 65; off++ {
			sizes = append(sizes, edge+off)
		}
	}
	for _, size := range sizes {
		for height := -1; height <= 8; height++ {
			for kind := 1; kind <= 2; kind++ {
				wantCheck(t, api.Inode{Kind: kind, Links: 1, Size: size, Tree: with(height, api.Ref{})})
			}
		}
	}
}

// Each reference beside sizes of all heights.
func TestCheckOfReferences(t *testing.T) {
	ats := []uint32{0, 1, 2, 255, 256, 8190, 8191, 8192, 8193, 1 << 16, 1 << 31, math.MaxUint32 - 1, math.MaxUint32}
	sums := []api.Sum{{}, {1}, {0x80}, {16: 1}, {31: 1}, {31: 0x80}, sum(0), sum(200)}
	for _, at := range ats {
		for _, s := range sums {
			for _, h := range heights {
				for kind := range 4 {
					wantCheck(t, api.Inode{Kind: kind, Links: min(kind, 1), Size: h.size, Stamp: 9, Tree: with(h.height, api.Ref{At: at, Sum: s})})
				}
			}
		}
	}
}

// A stamp is any number, but for an inode of no kind.
func TestCheckOfStamps(t *testing.T) {
	for _, stamp := range stamps {
		for kind := range 3 {
			wantCheck(t, api.Inode{Kind: kind, Links: min(kind, 1), Stamp: stamp})
		}
	}
}

func TestCheckOfDrawnInodes(t *testing.T) {
	r := rand.New(rand.NewPCG(14, 1))
	for range 20000 {
		x := drawn(r)
		if !mayBe(x) {
			t.Fatalf("%+v was drawn, and may not be", x)
		}
		wantCheck(t, x)
		switch r.IntN(6) {
		case 0:
			x.Kind = r.IntN(4)
		case 1:
			x.Links += r.IntN(3) - 1
		case 2:
			x.Size += r.IntN(600) - 300
		case 3:
			x.Tree.Height += r.IntN(3) - 1
		case 4:
			x.Tree.Root.At = r.Uint32N(16384) * r.Uint32N(2)
		case 5:
			x.Tree.Root = api.Ref{}
		}
		wantCheck(t, x)
	}
}

func TestHeight(t *testing.T) {
	for _, h := range heights {
		if got, err := inode.Height(h.size); got != h.height || err != api.OK {
			t.Errorf("Height(%d) = %d, %d; want %d", h.size, got, err, h.height)
		}
	}
	for size := range api.MaxFile + 1 {
		if got, err := inode.Height(size); got != heightOf(size) || err != api.OK {
			t.Fatalf("Height(%d) = %d, %d; want %d", size, got, err, heightOf(size))
		}
	}
}

func TestLeaves(t *testing.T) {
	for _, c := range [][2]int{{0, 0}, {1, 1}, {255, 1}, {256, 1}, {257, 2}, {511, 2}, {512, 2}, {513, 3}, {1024, 4}, {1025, 5}, {1048320, 4095}, {1048321, 4096}, {1048575, 4096}, {1048576, 4096}} {
		if got, err := inode.Leaves(c[0]); got != c[1] || err != api.OK {
			t.Errorf("Leaves(%d) = %d, %d; want %d", c[0], got, err, c[1])
		}
	}
	want := 0
	for size := range api.MaxFile + 1 {
		if size%256 == 1 {
			want++
		}
		if got, err := inode.Leaves(size); got != want || err != api.OK {
			t.Fatalf("Leaves(%d) = %d, %d; want %d", size, got, err, want)
		}
	}
}

func TestSizesThatMayNotBe(t *testing.T) {
	for _, size := range append([]int{api.MaxFile + 1, api.MaxFile + 2, api.MaxFile + 256, 4 * api.MaxFile}, wrongInts...) {
		height, err := inode.Height(size)
		wantErr(t, "Height of a wrong size", err, api.ErrArg, height == 0)
		leaves, err := inode.Leaves(size)
		wantErr(t, "Leaves of a wrong size", err, api.ErrArg, leaves == 0)
	}
}

func TestPlace(t *testing.T) {
	for _, c := range [][3]int{{1, 0, 0}, {2, 0, 1}, {3, 0, 2}, {4, 0, 3}, {5, 1, 0}, {8, 1, 3}, {9, 2, 0}, {4093, 1023, 0}, {4095, 1023, 2}, {4096, 1023, 3}} {
		if leaf, place, err := inode.Place(c[0]); leaf != c[1] || place != c[2] || err != api.OK {
			t.Errorf("Place(%d) = %d, %d, %d; want %d, %d", c[0], leaf, place, err, c[1], c[2])
		}
	}
}

// The numbers fill the table from its first place on, without a gap; so no two have one place.
func TestPlacesAreUnlike(t *testing.T) {
	number := 0
	for leaf := range api.MaxInodes / 4 {
		for place := range 4 {
			number++
			if l, p, err := inode.Place(number); l != leaf || p != place || err != api.OK {
				t.Fatalf("Place(%d) = %d, %d, %d; want %d, %d", number, l, p, err, leaf, place)
			}
		}
	}
}

func TestTable(t *testing.T) {
	for _, c := range [][2]int{{0, 0}, {1, 0}, {2, 0}, {4, 0}, {5, 1}, {15, 1}, {16, 1}, {17, 2}, {64, 2}, {65, 3}, {256, 3}, {257, 4}, {1024, 4}, {1025, 5}, {4095, 5}, {4096, 5}} {
		if got, err := inode.Table(c[0]); got != c[1] || err != api.OK {
			t.Errorf("Table(%d) = %d, %d; want %d", c[0], got, err, c[1])
		}
	}
}

// A table of the height told has the leaf of the greatest number, and one that is less high has not.
func TestTableHasThePlaces(t *testing.T) {
	for high := 1; high <= api.MaxInodes; high++ {
		leaf, _, _ := inode.Place(high)
		got, err := inode.Table(high)
		if err != api.OK || leaf >= 1<<(2*got) || got > 0 && leaf < 1<<(2*got-2) {
			t.Fatalf("Table(%d) = %d, %d; its leaf is %d", high, got, err, leaf)
		}
	}
}

func TestNumbersThatMayNotBe(t *testing.T) {
	for _, number := range append([]int{0, api.MaxInodes + 1, api.MaxInodes + 2, 2 * api.MaxInodes, 4 * api.MaxInodes}, wrongInts...) {
		leaf, place, err := inode.Place(number)
		wantErr(t, "Place of a wrong number", err, api.ErrNumber, leaf == 0, place == 0)
		if number == 0 {
			continue
		}
		height, err := inode.Table(number)
		wantErr(t, "Table of a wrong number", err, api.ErrNumber, height == 0)
	}
}

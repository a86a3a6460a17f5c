package inode_test

import (
	"math/rand/v2"
	"testing"

	"signet/api"
	"signet/inode"
)

// four is inodes that fill a leaf, no two of them alike.
func four() [4]api.Inode {
	return [4]api.Inode{
		{Kind: api.KindDir, Links: 1, Size: 64, Stamp: 1, Tree: with(0, api.Ref{At: 2, Sum: sum(2)})},
		greatest(),
		{Kind: api.KindFile, Links: 3, Size: 300, Stamp: 3, Tree: with(1, api.Ref{})},
		{Kind: api.KindFile, Links: 1000, Stamp: 4},
	}
}

// leafOf is the leaf of inodes, by their bytes one behind the other.
func leafOf(l [4]api.Inode) api.Block {
	var s []byte
	for _, x := range l {
		s = append(s, inBytes(x)...)
	}
	return api.Block(s)
}

// wantLeaf asks that four inodes have their leaf, and the leaf the four.
func wantLeaf(t *testing.T, l [4]api.Inode) {
	t.Helper()
	was := l
	b, place, err := inode.Leaf(l)
	if want := leafOf(l); b != want || place != 0 || err != api.OK {
		t.Fatalf("Leaf(%+v) = %v, %d, %d; want %v", l, b, place, err, want)
	}
	laid := b
	got, place, err := inode.FromLeaf(b)
	if got != l || place != 0 || err != api.OK {
		t.Fatalf("FromLeaf of Leaf(%+v) = %+v, %d, %d", l, got, place, err)
	}
	if l != was || b != laid {
		t.Fatal("what was handed in was changed")
	}
}

func TestLeaf(t *testing.T) {
	wantLeaf(t, four())
	wantLeaf(t, [4]api.Inode{})
	for place := range 4 {
		var alone [4]api.Inode
		alone[place] = greatest()
		wantLeaf(t, alone)
		gone := four()
		gone[place] = api.Inode{}
		wantLeaf(t, gone)
		same := [4]api.Inode{greatest(), greatest(), greatest(), greatest()}
		same[place].Links = 5
		wantLeaf(t, same)
	}
	for i, x := range rights() {
		l := four()
		l[i%4] = x
		wantLeaf(t, l)
	}
	r := rand.New(rand.NewPCG(14, 4))
	for range 3000 {
		wantLeaf(t, [4]api.Inode{drawn(r), drawn(r), drawn(r), drawn(r)})
	}
}

func TestZeroBlockIsTheLeafOfNone(t *testing.T) {
	if b, place, err := inode.Leaf([4]api.Inode{}); b != (api.Block{}) || place != 0 || err != api.OK {
		t.Errorf("Leaf of four zero inodes = %v, %d, %d; want the zero block", b, place, err)
	}
	if l, place, err := inode.FromLeaf(api.Block{}); l != ([4]api.Inode{}) || place != 0 || err != api.OK {
		t.Errorf("FromLeaf of the zero block = %+v, %d, %d; want four zero inodes", l, place, err)
	}
}

// wantFaults asks for the place of the first fault, of the inodes and of their bytes.
func wantFaults(t *testing.T, l [4]api.Inode, first int) {
	t.Helper()
	b, place, err := inode.Leaf(l)
	if b != (api.Block{}) || place != first || err != api.ErrInode {
		t.Errorf("Leaf(%+v) = %v, %d, %d; want nothing, %d, ErrInode", l, b, place, err, first)
	}
}

func wantFaultyBytes(t *testing.T, b api.Block, first int) {
	t.Helper()
	l, place, err := inode.FromLeaf(b)
	if l != ([4]api.Inode{}) || place != first || err != api.ErrInode {
		t.Errorf("FromLeaf(%v) = %+v, %d, %d; want nothing, %d, ErrInode", b, l, place, err, first)
	}
}

func TestLeafOfWhatMayNotBe(t *testing.T) {
	for first := range 4 {
		for _, x := range wrongs() {
			l := four()
			l[first] = x
			wantFaults(t, l, first)
			for second := first + 1; second < 4; second++ {
				two := l
				two[second] = api.Inode{Kind: 3}
				wantFaults(t, two, first)
			}
		}
		all := four()
		for place := first; place < 4; place++ {
			all[place] = api.Inode{Stamp: 1}
		}
		wantFaults(t, all, first)
	}
}

func TestFromLeafOfSpoiltBytes(t *testing.T) {
	for _, right := range [][4]api.Inode{four(), {}} {
		for first := range 4 {
			for _, at := range []int{1, 5, 6, 7, 12, 15, 26, 27, 60, 61, 62, 63} {
				b := leafOf(right)
				b[64*first+at] = 0x81
				wantFaultyBytes(t, b, first)
				for second := first + 1; second < 4; second++ {
					two := b
					two[64*second+63] = 1
					wantFaultyBytes(t, two, first)
				}
			}
		}
	}
	var full api.Block
	for i := range full {
		full[i] = 0xff
	}
	wantFaultyBytes(t, full, 0)
}

// Each byte of a leaf, turned to each other one, spoils its inode alone, if any.
func TestFromLeafOfEachByte(t *testing.T) {
	b := leafOf(four())
	for at, was := range b {
		for n := range 256 {
			b[at] = byte(n)
			place := at / 64
			x, err := ofBytes(b[64*place : 64*place+64])
			if err != api.OK {
				wantFaultyBytes(t, b, place)
				continue
			}
			want := four()
			want[place] = x
			if got, place, err := inode.FromLeaf(b); got != want || place != 0 || err != api.OK {
				t.Fatalf("FromLeaf(%v) = %+v, %d, %d; want %+v", b, got, place, err, want)
			}
		}
		b[at] = was
	}
}

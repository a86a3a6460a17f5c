package inode_test

import (
	"slices"
	"testing"

	"signet/api"
	"signet/inode"
)

func TestFirstExamples(t *testing.T) {
	for _, c := range [][2]int{{0, 0}, {256, 0}, {257, 1}, {1024, 1}, {1025, 2}, {1048576, 6}} {
		if h, err := inode.Height(c[0]); h != c[1] || err != api.OK {
			t.Errorf("Height(%d) = %d, %d; want %d", c[0], h, err, c[1])
		}
	}
	if h, err := inode.Height(1048577); h != 0 || err != api.ErrArg {
		t.Errorf("Height(1048577) = %d, %d; want ErrArg", h, err)
	}
	if n, err := inode.Leaves(257); n != 2 || err != api.OK {
		t.Errorf("Leaves(257) = %d, %d; want 2", n, err)
	}
	for _, c := range [][3]int{{1, 0, 0}, {4096, 1023, 3}} {
		if leaf, place, err := inode.Place(c[0]); leaf != c[1] || place != c[2] || err != api.OK {
			t.Errorf("Place(%d) = %d, %d, %d; want %d, %d", c[0], leaf, place, err, c[1], c[2])
		}
	}
	for _, c := range [][2]int{{4, 0}, {5, 1}} {
		if h, err := inode.Table(c[0]); h != c[1] || err != api.OK {
			t.Errorf("Table(%d) = %d, %d; want %d", c[0], h, err, c[1])
		}
	}
}

func TestSecondExamples(t *testing.T) {
	want := append([]byte{2, 0, 1, 0}, make([]byte, 12)...)
	want = append(want, 7)
	want = append(want, make([]byte, 47)...)
	if b, err := inode.Encode(api.Inode{Kind: api.KindDir, Links: 1, Stamp: 7}); !slices.Equal(b, want) || err != api.OK {
		t.Errorf("Encode({KindDir, 1, 0, 7}) = %v, %d; want %v", b, err, want)
	}
	if x, err := inode.Decode(make([]byte, 64)); x != (api.Inode{}) || err != api.OK {
		t.Errorf("Decode of 64 zeros = %+v, %d; want the zero inode", x, err)
	}
	if x, err := inode.Decode(append([]byte{3}, make([]byte, 63)...)); x != (api.Inode{}) || err != api.ErrInode {
		t.Errorf("Decode of a byte 3 and 63 zeros = %+v, %d; want ErrInode", x, err)
	}
}

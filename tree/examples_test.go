package tree_test

import (
	"slices"
	"testing"

	"signet/api"
	"signet/tree"
)

func TestFirstExamples(t *testing.T) {
	if n, err := tree.Capacity(6); n != 4096 || err != api.OK {
		t.Errorf("Capacity(6): %d, %d", n, err)
	}
	for _, c := range [][2]int{{0, 0}, {1, 0}, {2, 1}, {17, 3}} {
		if h, err := tree.Height(c[0]); h != c[1] || err != api.OK {
			t.Errorf("Height(%d): %d, %d", c[0], h, err)
		}
	}
	if l, err := tree.Way(2, 6); !slices.Equal(l, []int{1, 2}) || err != api.OK {
		t.Errorf("Way(2, 6): %v, %d", l, err)
	}
	if l, err := tree.Way(0, 0); len(l) != 0 || err != api.OK {
		t.Errorf("Way(0, 0): %v, %d", l, err)
	}
	s := made(t, 4)
	if b, err := tree.Leaf(s.c, api.Tree{Height: 2}, 6); b != (api.Block{}) || err != api.OK {
		t.Errorf("Leaf: %v, %d", b, err)
	}
	if r, err := tree.Ref(s.c, api.Tree{Height: 2}, 3, 0); r != (api.Ref{}) || err != api.ErrPlace {
		t.Errorf("Ref of the level 3: %v, %d", r, err)
	}
}

package grow_test

import (
	"slices"
	"testing"

	"signet/api"
	"signet/grow"
)

func TestExamples(t *testing.T) {
	s := made(t, 8)
	g, err := grow.New(s.c, api.Tree{})
	if err != api.OK {
		t.Fatal(err)
	}
	fresh := func(height, want int) {
		t.Helper()
		if n, err := g.Fresh(); g.Height() != height || n != want || err != api.OK {
			t.Errorf("Height = %d, Fresh = %d, %d; want %d, %d", g.Height(), n, err, height, want)
		}
	}
	x, y, z := full(1), full(2), full(3)
	g.Set(0, x)
	fresh(0, 1)
	g.Fit(2)
	g.Set(1, y)
	fresh(1, 3)
	g.Set(1, api.Block{})
	fresh(1, 2)
	g.Fit(1)
	fresh(0, 1)

	stands := s.tree(1, map[int]api.Block{0: x, 1: y})
	if err := g.Stand(stands.Tree); err != api.OK {
		t.Fatal(err)
	}
	g.Set(1, y)
	fresh(1, 0)
	g.Set(0, z)
	fresh(1, 2)
	want := []uint32{stands.refs[at{0, 0}].At, stands.refs[at{1, 0}].At}
	slices.Sort(want)
	if l, err := g.Gone(); !slices.Equal(l, want) || err != api.OK {
		t.Errorf("Gone = %v, %d; want %v", l, err, want)
	}
}

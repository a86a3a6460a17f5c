package inodes_test

import (
	"math"
	"testing"

	"signet/api"
	"signet/inodes"
)

// 15.6

func TestNilInodes(t *testing.T) {
	var x *inodes.Inodes
	if n, err := x.High(); n != 0 || err != api.OK {
		t.Errorf("High = %d, %d", n, err)
	}
	if n, err := x.New(); n != 0 || err != api.OK {
		t.Errorf("New = %d, %d", n, err)
	}
	if l, err := x.All(); len(l) != 0 || err != api.OK {
		t.Errorf("All = %v, %d", l, err)
	}
	if y := x.Clone(); y != nil {
		t.Errorf("Clone = %v", y)
	}
	for _, n := range append([]int{1, 2, api.MaxInodes}, noNumbers...) {
		if i, err := x.Get(n); i != (api.Info{}) || err != api.ErrArg {
			t.Errorf("Get(%d) = %v, %d; want ErrArg", n, i, err)
		}
		for _, m := range []int{-1, 0, 1, 4096, api.MaxFile, api.MaxFile + 1, math.MinInt, math.MaxInt} {
			if b, err := x.Leaf(n, m); b != (api.Block{}) || err != api.ErrArg {
				t.Errorf("Leaf(%d, %d) = %v, %d; want ErrArg", n, m, brief(b), err)
			}
			if err := x.Links(n, m, 1); err != api.ErrArg {
				t.Errorf("Links(%d, %d) = %d; want ErrArg", n, m, err)
			}
			if err := x.Resize(n, m, 1); err != api.ErrArg {
				t.Errorf("Resize(%d, %d) = %d; want ErrArg", n, m, err)
			}
			if err := x.Set(n, m, full(1), 1); err != api.ErrArg {
				t.Errorf("Set(%d, %d) = %d; want ErrArg", n, m, err)
			}
		}
		if err := x.Drop(n); err != api.ErrArg {
			t.Errorf("Drop(%d) = %d; want ErrArg", n, err)
		}
		if err := x.Touch(n, 1); err != api.ErrArg {
			t.Errorf("Touch(%d) = %d; want ErrArg", n, err)
		}
		if m, err := x.Make(n, 1); m != 0 || err != api.ErrArg {
			t.Errorf("Make(%d) = %d, %d; want ErrArg", n, m, err)
		}
	}
	c := counter{next: 1}
	for _, take := range []func() (uint32, api.Errno){nil, c.take} {
		if out, err := x.Out(take); !isZero(out) || err != api.ErrArg {
			t.Errorf("Out = %d; want ErrArg", err)
		}
	}
	if c.calls != 0 {
		t.Error("take was called")
	}
}

// isZero tells whether nothing was laid out.
func isZero(out api.Out) bool {
	return out.Table == (api.Tree{}) && out.High == 0 && len(out.Writes) == 0 && len(out.Let) == 0
}

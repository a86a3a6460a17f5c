package inodes_test

import (
	"testing"

	"signet/api"
)

func TestExamples(t *testing.T) {
	s := made(t, 64, 4)
	x := s.empty()
	for want, kind := range []int{dir, file} {
		if n, err := x.Make(kind, 1); n != want+1 || err != api.OK {
			t.Errorf("Make(%d) = %d, %d; want %d", kind, n, err, want+1)
		}
	}
	s.ok(x.Resize(2, 1000, 1), x.Set(2, 3, full(1), 1))
	s.news("a leaf that was set", x, 3)
	s.all(x, 1, 2)
	s.ok(x.Drop(2))
	s.news("dropped", x, 1)
	if i, err := x.Get(2); i != (api.Info{}) || err != api.ErrNone {
		t.Errorf("Get = %v, %d; want ErrNone", i, err)
	}
}

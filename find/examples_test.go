package find_test

import (
	"testing"

	"signet/api"
	"signet/find"
	"signet/inodes"
)

func TestExample(t *testing.T) {
	m := plant("/a/", "/a/b")
	bothForms(t, m, func(x *inodes.Inodes) {
		if i, err := find.Lookup(x, "/a/b"); i.Number != 3 || i.Kind != api.KindFile || err != api.OK {
			t.Errorf("Lookup(/a/b) = %v, %d; want the file 3", i, err)
		}
		for s, want := range map[string]api.Errno{"/a/b/": api.ErrDir, "/a/b/c": api.ErrDir, "/x": api.ErrMissing} {
			if i, err := find.Lookup(x, s); i != (api.Info{}) || err != want {
				t.Errorf("Lookup(%s) = %v, %d; want error %d", s, i, err, want)
			}
		}
		n, last, p, err := find.Parent(x, "/a/c")
		if n != 2 || last != "c" || toldPath(p) != `["a" "c"] false` || err != api.OK {
			t.Errorf("Parent(/a/c) = %d, %q, %v, %d; want 2, c", n, last, p, err)
		}
		l, err := find.All(x)
		wantPaths(t, "All", l, err, "/", "/a", "/a/b")
	})
}

// The error's number and the limits are those of the chapters.
func TestNumbers(t *testing.T) {
	if api.ErrMany != 190 || api.MaxGlob != 4096 || api.MaxDepth != 32 || api.MaxPath != 1024 {
		t.Errorf("ErrMany is %d, MaxGlob %d, MaxDepth %d, MaxPath %d", api.ErrMany, api.MaxGlob, api.MaxDepth, api.MaxPath)
	}
	if api.ErrDir != 170 || api.ErrMissing != 171 || api.ErrPath != 180 || api.ErrLong != 181 || api.ErrDeep != 182 {
		t.Error("an error has another number")
	}
}

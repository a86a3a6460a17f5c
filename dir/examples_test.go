package dir_test

import (
	"slices"
	"testing"

	"signet/api"
	"signet/dir"
)

func TestExample(t *testing.T) {
	x, m := made(t, 16, 8).empty(), model{}
	n := putDir(t, x, m, nil)
	for i, s := range []string{"a", "b", "c"} {
		if err := dir.Add(x, n, api.Link{Inode: 2 + i, Name: s}, 1); err != api.OK {
			t.Errorf("Add(%d, %s) = %d", 2+i, s, err)
		}
	}
	if i, place, err := dir.Find(x, n, "b"); i != 3 || place != 1 || err != api.OK {
		t.Errorf("Find(b) = %d, %d, %d; want 3, 1", i, place, err)
	}
	if i, err := dir.Remove(x, n, "a", 1); i != 2 || err != api.OK {
		t.Errorf("Remove(a) = %d, %d; want 2", i, err)
	}
	if l, err := dir.Entry(x, n, 0); l != (api.Link{Inode: 4, Name: "c"}) || err != api.OK {
		t.Errorf("Entry(0) = %v, %d; want {4 c}", l, err)
	}
	if l, err := dir.List(x, n); !slices.Equal(l, []api.Link{{Inode: 3, Name: "b"}, {Inode: 4, Name: "c"}}) || err != api.OK {
		t.Errorf("List = %v, %d; want {3 b}, {4 c}", l, err)
	}
	if i, place, err := dir.Find(x, 1, ""); i != 0 || place != 0 || err != api.ErrName {
		t.Errorf("Find of no name = %d, %d, %d; want ErrName", i, place, err)
	}
}

// The errors' numbers and the limit are those of the chapter.
func TestNumbersOfErrors(t *testing.T) {
	for i, err := range []api.Errno{api.ErrDir, api.ErrMissing, api.ErrThere, api.ErrFull} {
		if err != api.Errno(170+i) {
			t.Errorf("the error %d is %d", 170+i, err)
		}
	}
	if api.MaxEntries != 16384 {
		t.Errorf("MaxEntries is %d", api.MaxEntries)
	}
}

package dir_test

import (
	"fmt"
	"math/rand"
	"slices"
	"testing"

	"signet/api"
	"signet/dir"
	"signet/inodes"
)

// 17.4

// What was added is found, behind all others; what was removed is not; and names are unlike.
func TestWhatWasAddedIsFound(t *testing.T) {
	r := rand.New(rand.NewSource(1))
	s := made(t, 8192, 8)
	x, m := s.empty(), model{}
	n := putDir(t, x, m, nil)
	for i := range 1500 {
		many, _ := dir.Count(x, n)
		e := api.Link{Inode: 1 + r.Intn(4096), Name: fmt.Sprint("e", r.Intn(60))}
		_, _, missing := dir.Find(x, n, e.Name)
		switch err := dir.Add(x, n, e, uint64(i)); {
		case missing == api.ErrMissing && err == api.OK:
			if found, place, err := dir.Find(x, n, e.Name); found != e.Inode || place != many || err != api.OK {
				t.Fatalf("Find(%s) behind Add = %d, %d, %d; want %d, %d", e.Name, found, place, err, e.Inode, many)
			}
		case missing == api.OK && err == api.ErrThere:
			if _, err := dir.Remove(x, n, e.Name, uint64(i)); err != api.OK {
				t.Fatalf("Remove(%s) = %d", e.Name, err)
			}
			if found, place, err := dir.Find(x, n, e.Name); found != 0 || place != 0 || err != api.ErrMissing {
				t.Fatalf("Find(%s) behind Remove = %d, %d, %d", e.Name, found, place, err)
			}
		default:
			t.Fatalf("Find(%s) = %d, and Add = %d", e.Name, missing, err)
		}
		unlike(t, x, n)
		if i%50 == 0 {
			x, _ = s.commit(x)
		}
	}
}

// unlike asks that names are unlike, stand in their order in the list, and that each is found where its entry stands.
func unlike(t *testing.T, x *inodes.Inodes, n int) {
	t.Helper()
	l, err := dir.List(x, n)
	many, _ := dir.Count(x, n)
	if len(l) != many || err != api.OK {
		t.Fatalf("List has %d, %d; want %d", len(l), err, many)
	}
	for i, e := range l {
		if i > 0 && l[i-1].Name >= e.Name {
			t.Fatalf("%q stands ahead of %q", l[i-1].Name, e.Name)
		}
		inode, place, err := dir.Find(x, n, e.Name)
		if inode != e.Inode || err != api.OK {
			t.Fatalf("Find(%s) = %d, %d; want %d", e.Name, inode, err, e.Inode)
		}
		if o, err := dir.Entry(x, n, place); o != e || err != api.OK {
			t.Fatalf("Entry(%d) = %v, %d; want %v", place, o, err, e)
		}
	}
}

// Remove of Add leaves the list as it was, and by its digests, too, all is what it was, but for the stamp.
func TestRemoveOfAdd(t *testing.T) {
	each(t, func(x *inodes.Inodes, m model, n int) {
		before, _ := dir.List(x, n)
		fresh, _ := x.New()
		for i, s := range []string{"a", "z", "n00000x", long()} {
			if err := dir.Add(x, n, api.Link{Inode: 5 + i, Name: s}, 8); err != api.OK {
				t.Fatalf("Add(%s) = %d", s, err)
			}
			if i, err := x.Get(n); i.Stamp != 8 || err != api.OK {
				t.Errorf("the stamp behind Add is %d, %d", i.Stamp, err)
			}
			if inode, err := dir.Remove(x, n, s, 9); inode != 5+i || err != api.OK {
				t.Fatalf("Remove(%s) = %d, %d", s, inode, err)
			}
			if i, err := x.Get(n); i.Stamp != 9 || err != api.OK {
				t.Errorf("the stamp behind Remove is %d, %d", i.Stamp, err)
			}
			if l, err := dir.List(x, n); !slices.Equal(l, before) || err != api.OK {
				t.Errorf("List = %v, %d; want %v", l, err, before)
			}
			if err := x.Touch(n, 1); err != api.OK {
				t.Fatal(err)
			}
			holds(t, "added and removed", x, m)
			isNew(t, "added and removed", x, fresh)
		}
	})
}

// Add of Remove leaves the list as it was; the places are others.
func TestAddOfRemove(t *testing.T) {
	each(t, func(x *inodes.Inodes, m model, n int) {
		before, _ := dir.List(x, n)
		x = x.Clone()
		for _, e := range before {
			inode, err := dir.Remove(x, n, e.Name, 8)
			if inode != e.Inode || err != api.OK {
				t.Fatalf("Remove(%s) = %d, %d", e.Name, inode, err)
			}
			if err := dir.Add(x, n, e, 9); err != api.OK {
				t.Fatalf("Add(%v) = %d", e, err)
			}
			if l, err := dir.List(x, n); !slices.Equal(l, before) || err != api.OK {
				t.Errorf("List = %v, %d; want %v", l, err, before)
			}
		}
	})
}

package find_test

import (
	"slices"
	"strings"
	"testing"

	"signet/api"
	"signet/dir"
	"signet/find"
	"signet/inodes"
)

// 19.4

// several is trees of all kinds, with unlike names in each directory.
func several() []model {
	s, lines := wide()
	long := plant(append(lines, s+"/a", s+"/"+rep("n", 54), s+"/b/", s+"/b/c")...)
	return []model{
		plant(), plant("/a"), plant("/a/"), plant("/a/", "/a/b"), grove(), long,
		plant("/a/", "/a/a = /a", "/a/f", "/b = /a", "/a/up = /", "/c = /a/f"),
		plant("/z/", "/z/y/", "/z/y/x/", "/a = /z/y/x", "/z/y/x/root = /", "/m = /z", "/z/y/x/f"),
	}
}

// follows asks of inodes, as they are, what follows by the chapter.
func follows(t *testing.T, x *inodes.Inodes) {
	t.Helper()
	all, err := find.All(x)
	if err != api.OK {
		t.Fatalf("All: %d", err)
	}
	if l, err := told(x, 0); !slices.Equal(l, all) || err != api.OK {
		t.Errorf("Each tells %v, %d; but All %v", l, err, all)
	}
	byInode := map[int][]string{}
	for _, f := range all {
		lookupOf(t, x, f)
		byInode[f.Info.Number] = append(byInode[f.Info.Number], f.Path)
		if strings.ContainsAny(f.Path, "*?") {
			continue
		}
		if l, err := find.Glob(x, f.Path); len(l) != 1 || l[0] != f || err != api.OK {
			t.Errorf("Glob(%q) = %v, %d; want just %v", f.Path, l, err, f)
		}
	}
	for n := range 50 {
		if l, err := find.Paths(x, n); !slices.Equal(l, byInode[n]) || err != api.OK {
			t.Errorf("Paths(%d) = %q, %d; want %q", n, l, err, byInode[n])
		}
	}
	inOrder(t, x, all)
}

// lookupOf asks that what All tells is what the path names, by all calls that go by one.
func lookupOf(t *testing.T, x *inodes.Inodes, f api.Found) {
	t.Helper()
	if i, err := find.Lookup(x, f.Path); i != f.Info || err != api.OK {
		t.Errorf("Lookup(%q) = %v, %d; want %v", f.Path, i, err, f.Info)
	}
	if i, err := x.Get(f.Info.Number); i != f.Info || err != api.OK {
		t.Errorf("Get(%d) = %v, %d; want %v", f.Info.Number, i, err, f.Info)
	}
	if f.Path == "/" {
		return
	}
	names := strings.Split(f.Path[1:], "/")
	if n, err := find.Walk(x, names); n != f.Info.Number || err != api.OK {
		t.Errorf("Walk(%q) = %d, %d; want %d", names, n, err, f.Info.Number)
	}
	way, places, err := find.Chain(x, names)
	if len(way) != len(names)+1 || len(places) != len(names) || err != api.OK {
		t.Fatalf("Chain(%q) = %v, %v, %d", names, way, places, err)
	}
	for i, place := range places {
		if l, err := dir.Entry(x, way[i], place); l != (api.Link{Inode: way[i+1], Name: names[i]}) || err != api.OK {
			t.Errorf("Entry(%d, %d) = %v, %d; want %d, %q", way[i], place, l, err, way[i+1], names[i])
		}
	}
	up, last, p, err := find.Parent(x, f.Path)
	if up != way[len(way)-2] || last != names[len(names)-1] || !slices.Equal(p.Names, names) || p.Dir || err != api.OK {
		t.Errorf("Parent(%q) = %d, %q, %v, %d", f.Path, up, last, p, err)
	}
}

// inOrder asks that each thing stands behind the directory it is in, that entries of one directory stand by their names, and that no path stands twice.
func inOrder(t *testing.T, x *inodes.Inodes, all []api.Found) {
	t.Helper()
	lastIn := map[string]string{}
	for i, f := range all {
		cut := strings.LastIndex(f.Path, "/")
		up, name := f.Path[:cut], f.Path[cut+1:]
		if i == 0 {
			if f.Path != "/" || f.Info.Number != 1 {
				t.Errorf("the first is %v", f)
			}
			continue
		}
		if was, is := lastIn[up]; is && was >= name {
			t.Errorf("%q stands behind %q in %q", name, was, up)
		}
		lastIn[up] = name
		if up != "" && !slices.ContainsFunc(all[:i], func(g api.Found) bool { return g.Path == up }) {
			t.Errorf("%q stands ahead of the directory it is in", f.Path)
		}
	}
}

func TestWhatFollows(t *testing.T) {
	for _, m := range several() {
		bothForms(t, m, func(x *inodes.Inodes) {
			follows(t, x)
			check(t, x, m, whole()...)
		})
	}
}

// All of a tree in which each directory has one name is each inode in use once, but files as often as they have links.
func TestAllIsAll(t *testing.T) {
	m := grove()
	bothForms(t, m, func(x *inodes.Inodes) {
		numbers, _ := x.All()
		for _, n := range numbers {
			i, _ := x.Get(n)
			if l, err := find.Paths(x, n); len(l) != i.Links || err != api.OK {
				t.Errorf("Paths(%d) = %q, %d; it has %d links", n, l, err, i.Links)
			}
		}
	})
}

// What changes in the inodes is told by the next call: nothing of an answer is kept.
func TestNothingIsKept(t *testing.T) {
	s := made(t, 256, 8)
	m := plant("/a/", "/a/b", "/c/")
	x := s.laid(m)
	for range 3 {
		check(t, x, m, append(whole(), of("Lookup", "/a/b", "/a/d", "/a")...)...)
		dir.Add(x, 2, api.Link{Inode: 3, Name: "d"}, 9)
		l, err := find.All(x)
		wantPaths(t, "All", l, err, "/", "/a", "/a/b", "/a/d", "/c")
		if i, err := find.Lookup(x, "/a"); i.Size != 128 || i.Stamp != 9 || err != api.OK {
			t.Errorf("Lookup(/a) = %v, %d", i, err)
		}
		dir.Remove(x, 2, "d", 9)
		x.Touch(2, 2)
		x, _ = s.commit(x)
	}
}

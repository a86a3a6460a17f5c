package find_test

import (
	"strings"
	"testing"

	"signet/api"
	"signet/find"
	"signet/inodes"
)

// 19.2

// noPath is texts that are no paths, with the error of each.
var noPath = []struct {
	s   string
	err api.Errno
}{
	{"", api.ErrPath}, {"a", api.ErrPath}, {"d/e", api.ErrPath}, {".", api.ErrPath}, {"..", api.ErrPath}, {" /d", api.ErrPath}, {"\x00", api.ErrPath}, {rep("a", 1024), api.ErrPath},
	{rep("/", 1025), api.ErrLong}, {rep("a", 1025), api.ErrLong}, {rep("/..", 342), api.ErrLong}, {"/d" + rep("/", 1023), api.ErrLong}, {rep("/\x00", 513), api.ErrLong}, {rep("/a", 513), api.ErrLong},
	{"/\x00", api.ErrName}, {"/d/\x00/e", api.ErrName}, {"/d/" + rep("n", 57), api.ErrName}, {"/missing/" + rep("n", 57), api.ErrName}, {"/f/a/b\x00", api.ErrName}, {"/\x00/..", api.ErrName},
	{deep(33), api.ErrDeep}, {deep(33) + "/..", api.ErrDeep}, {"/missing" + deep(32), api.ErrDeep}, {"/f" + deep(32) + "/", api.ErrDeep}, {deep(33) + "/\x00", api.ErrDeep}, {"/\x00" + deep(33), api.ErrName},
}

func TestTextsThatAreNoPaths(t *testing.T) {
	m := grove()
	bothForms(t, m, func(x *inodes.Inodes) {
		for _, c := range noPath {
			fails(t, x, m, c.err, call{op: "Lookup", s: c.s}, call{op: "Parent", s: c.s})
		}
	})
}

func TestLookupOfTheRoot(t *testing.T) {
	for _, m := range []model{grove(), plant()} {
		want := api.Info{Number: 1, Kind: api.KindDir, Links: 1, Size: 64 * len(m.things[1].entries), Stamp: 1}
		bothForms(t, m, func(x *inodes.Inodes) {
			tells(t, x, m, answer{info: want}, of("Lookup", "/", "//", "/.", "/..", "/./", "/../..", "/../.", rep("/", 1024), rep("/..", 341), "/d/..", "/d/../")...)
			fails(t, x, m, api.ErrPath, of("Parent", "/", "//", "/.", "/..", "/../.", rep("/", 1024), "/d/..", "/missing/..", "/f/..", "/d/e/../../")...)
		})
	}
}

// A path of two stops is no walk: what stands ahead of them need not be there.
func TestLookupByStops(t *testing.T) {
	m := grove()
	bothForms(t, m, func(x *inodes.Inodes) {
		for _, s := range []string{"/d/../f", "/missing/../f", "/f/../f", "/f/./../f", "/../f", "/d/./e/.././../f", "/d/e/../z/../../f", "//f", "/0", "/d/e/again"} {
			tells(t, x, m, answer{info: api.Info{Number: 13, Kind: api.KindFile, Links: 4, Size: 11 * 18, Stamp: 13}}, call{op: "Lookup", s: s})
		}
	})
}

func TestLookupTellsWhatItIs(t *testing.T) {
	m := grove()
	bothForms(t, m, func(x *inodes.Inodes) {
		all, _ := m.all(never)
		for _, f := range all {
			tells(t, x, m, answer{info: f.Info}, call{op: "Lookup", s: f.Path})
			if f.Info.Kind == api.KindDir {
				tells(t, x, m, answer{info: f.Info}, of("Lookup", f.Path+"/", f.Path+"//", f.Path+"/.", f.Path+"/./", f.Path+"/a/..")...)
			}
		}
	})
}

// A path that asks for a directory, by whatever stands at its end, must not reach a file.
func TestLookupThatAsksForADirectory(t *testing.T) {
	m := grove()
	bothForms(t, m, func(x *inodes.Inodes) {
		fails(t, x, m, api.ErrDir, of("Lookup", "/f/", "/f//", "/f/.", "/f/./", "/f/a/..", "/f/a/../", "/f/missing/../.", "/d/e/f/", "/d/e/f/.", "/d/e/f/x/..", "/0/", "/d/../f/", "/f/a", "/f/a/", "/d/e/f/g/h")...)
		fails(t, x, m, api.ErrMissing, of("Lookup", "/x", "/x/", "/x/.", "/x/y", "/d/x/", "/empty/x", "/d/e/x/..a", "/*", "/?")...)
	})
}

func TestParent(t *testing.T) {
	m := grove()
	bothForms(t, m, func(x *inodes.Inodes) {
		for _, c := range []struct {
			s     string
			inode int
			last  string
			path  string
		}{
			{"/d", 1, "d", `["d"] false`},
			{"/d/", 1, "d", `["d"] true`},
			{"/x", 1, "x", `["x"] false`},
			{"/x/", 1, "x", `["x"] true`},
			{"/f", 1, "f", `["f"] false`},
			{"/f/", 1, "f", `["f"] true`},
			{"/f/.", 1, "f", `["f"] true`},
			{"/f/a/..", 1, "f", `["f"] true`},
			{"/d/e", 2, "e", `["d" "e"] false`},
			{"/d/x", 2, "x", `["d" "x"] false`},
			{"/d/e/f", 3, "f", `["d" "e" "f"] false`},
			{"//d/./e//x/", 3, "x", `["d" "e" "x"] true`},
			{"/d/e/x/y/..", 3, "x", `["d" "e" "x"] true`},
			{"/missing/../d/c/more/../x", 11, "x", `["d" "c" "x"] false`},
			{"/empty/a", 14, "a", `["empty" "a"] false`},
			{"/d/" + long("q"), 2, long("q"), `["d" "` + long("q") + `"] false`},
		} {
			tells(t, x, m, answer{inode: c.inode, name: c.last, path: c.path}, call{op: "Parent", s: c.s})
		}
	})
}

func TestParentThatIsNone(t *testing.T) {
	m := grove()
	bothForms(t, m, func(x *inodes.Inodes) {
		fails(t, x, m, api.ErrDir, of("Parent", "/f/a", "/f/a/", "/f/f", "/d/e/f/g", "/d/z/x/", "/0/x", "/f/a/b", "/f/a/b/c/")...)
		fails(t, x, m, api.ErrMissing, of("Parent", "/x/a", "/x/a/", "/x/y/z", "/d/x/a", "/d/e/x/a", "/empty/a/b", "/x/y/..a")...)
	})
}

// What is above the last name may be as deep as a path goes.
func TestParentOfDeepAndLongPaths(t *testing.T) {
	s := "/a = /"
	m := plant(s, "/b")
	bothForms(t, m, func(x *inodes.Inodes) {
		names := rep("/a", 31)
		check(t, x, m, of("Parent", names+"/b", names+"/b/", names+"/c", names+"/a", names+"/a/a", names+"/a/../b", names+"/a/a/../b")...)
		check(t, x, m, of("Lookup", names+"/b", names+"/b/", names+"/c", names+"/a", names+"/a/a", names+"/a/../b", names+"/a/a/../b")...)
		if n, last, p, err := find.Parent(x, names+"/b"); n != 1 || last != "b" || len(p.Names) != 32 || p.Dir || err != api.OK {
			t.Errorf("Parent of 32 names = %d, %q, %v, %d", n, last, p, err)
		}
		fails(t, x, m, api.ErrDeep, of("Parent", names+"/a/b", names+"/a/a")...)
		slashes := rep("/", 1022)
		tells(t, x, m, answer{inode: 1, name: "b", path: `["b"] false`}, call{op: "Parent", s: slashes + "/b"})
		tells(t, x, m, answer{inode: 1, name: "b", path: `["b"] true`}, call{op: "Parent", s: slashes + "b/"})
		fails(t, x, m, api.ErrLong, of("Parent", slashes+"//b", slashes+"/b/")...)
		fails(t, x, m, api.ErrLong, of("Lookup", slashes+"//b", slashes+"/b/")...)
		check(t, x, m, of("Lookup", slashes+"/b", slashes+"b/")...)
	})
}

// An entry may name an inode that is not in use, and a number may be in use behind it.
func TestLookupOfNothing(t *testing.T) {
	m := plant("/d/", "/d/gone = 9", "/gone = 4096", "/d/f")
	bothForms(t, m, func(x *inodes.Inodes) {
		fails(t, x, m, api.ErrNone, of("Lookup", "/gone", "/gone/", "/gone/a", "/d/gone", "/d/gone/.", "/d/gone/a/b")...)
		fails(t, x, m, api.ErrNone, of("Parent", "/gone/a", "/gone/a/b", "/d/gone/a", "/d/gone/a/b/")...)
		tells(t, x, m, answer{inode: 2, name: "gone", path: `["d" "gone"] false`}, call{op: "Parent", s: "/d/gone"})
	})
}

func TestLookupWithoutARoot(t *testing.T) {
	none, file := plant(), plant()
	none.free(1)
	file.things[1] = thing{kind: api.KindFile, links: 1, stamp: 1, bytes: "a"}
	bothForms(t, none, func(x *inodes.Inodes) {
		fails(t, x, none, api.ErrNone, append(of("Lookup", "/", "/a", "/a/b", "/.."), of("Parent", "/a", "/a/", "/a/b")...)...)
		fails(t, x, none, api.ErrPath, append(of("Lookup", "", "a"), of("Parent", "/", "", "a")...)...)
	})
	bothForms(t, file, func(x *inodes.Inodes) {
		fails(t, x, file, api.ErrDir, append(of("Lookup", "/", "/a", "/a/b", "/.."), of("Parent", "/a", "/a/", "/a/b")...)...)
		fails(t, x, file, api.ErrPath, of("Parent", "/")...)
	})
}

// What is told of a path is what is told of its names, and of what is above it.
func TestLookupIsWalk(t *testing.T) {
	m := grove()
	bothForms(t, m, func(x *inodes.Inodes) {
		for _, s := range []string{"/d/e/f", "/d/e", "/x", "/f/a", "/d/c/more/f", "/empty", "/empty/a", "/b/d/e", "/b/d/e/f"} {
			names := strings.Split(s[1:], "/")
			n, err := find.Walk(x, names)
			i, other := find.Lookup(x, s)
			if i.Number != n || other != err {
				t.Errorf("Lookup(%q) = %v, %d, but Walk = %d, %d", s, i, other, n, err)
			}
			up, last, _, err := find.Parent(x, s)
			if err != api.OK {
				continue
			}
			if last != names[len(names)-1] {
				t.Errorf("Parent(%q) tells the name %q", s, last)
			}
			if w, err := find.Walk(x, names[:len(names)-1]); w != up || err != api.OK {
				t.Errorf("Parent(%q) = %d, but Walk = %d, %d", s, up, w, err)
			}
		}
	})
}

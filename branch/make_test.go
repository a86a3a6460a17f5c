package branch_test

import (
	"fmt"
	"slices"
	"testing"

	"signet/api"
	"signet/branch"
	"signet/name"
)

// 22.1: Begin.

// Begin makes an empty root, inode 1, where none is in use.
func TestBegin(t *testing.T) {
	for _, stamp := range []uint64{0, 1, 77, 1<<64 - 1} {
		x := made(t, 64, 8).empty()
		if err := branch.Begin(x, stamp); err != api.OK {
			t.Fatal(err)
		}
		holds(t, "Begin", x, model{1: {kind: api.KindDir, links: 1, stamp: stamp}})
		if err := branch.Begin(x, stamp+1); err != api.ErrThere {
			t.Errorf("Begin once more: %d; want ErrThere", err)
		}
		holds(t, "Begin once more", x, model{1: {kind: api.KindDir, links: 1, stamp: stamp}})
	}
}

// Begin is ErrThere, whichever inode is in use, and whatever it is.
func TestBeginWhereOneIsInUse(t *testing.T) {
	file := thing{kind: api.KindFile, links: 1, stamp: 1}
	for _, m := range []model{plant(), plant("/a/", "/a/b"), {1: file}, {2: file}, {5: file}, {17: file}, {4096: file}} {
		scenes(t, m, func(sc *scene) { sc.fails(api.ErrThere, call{op: "Begin"}) })
	}
}

// Begin where all that was committed is dropped makes a root again.
func TestBeginBehindDrops(t *testing.T) {
	for _, m := range []model{plant("/a/", "/a/b"), {3: {kind: api.KindFile, links: 1, stamp: 1}}, {40: {kind: api.KindDir, links: 1, stamp: 1}}} {
		scenes(t, m, func(sc *scene) {
			for _, n := range m.numbers() {
				sc.x.Drop(n)
			}
			sc.m = model{}
			sc.tells(call{op: "Begin"}, answer{})
			sc.fails(api.ErrThere, call{op: "Begin"})
			sc.tells(call{op: "Create", s: "/a"}, answer{n: 2})
		})
	}
}

// 22.2

// Create and Mkdir make what is found by its path: empty, with the least free number and one link.
func TestMake(t *testing.T) {
	scenes(t, plant("/d/", "/d/e/", "/f"), func(sc *scene) {
		for i, c := range []call{
			{op: "Create", s: "/a"}, {op: "Mkdir", s: "/b"}, {op: "Mkdir", s: "/c/"}, {op: "Mkdir", s: "/g/."}, {op: "Create", s: "/d/a"}, {op: "Mkdir", s: "/d/e/a"},
			{op: "Create", s: "//d/./e//b"}, {op: "Create", s: "/d/e/../b"}, {op: "Create", s: "/../h"}, {op: "Mkdir", s: "/i/x/.."}, {op: "Create", s: "/c/a"}, {op: "Create", s: "/" + long("n")},
			{op: "Create", s: "/ \xff*?"}, {op: "Create", s: "/..."}, {op: "Mkdir", s: "/d/e/a/a"},
		} {
			sc.tells(c, answer{n: 5 + i})
			n, err := sc.m.lookup(c.s)
			if n != 5+i || err != api.OK || sc.m[n].links != 1 || sc.m[n].text() != "" || (sc.m[n].kind == api.KindDir) != (c.op == "Mkdir") {
				t.Fatalf("%s made %v", c.brief(), sc.m[n])
			}
		}
	})
}

// A number that is free is taken again, the least first.
func TestMakeTakesTheLeastNumber(t *testing.T) {
	m := plant("/a", "/b", "/c/", "/d", "/e", "/f")
	for _, n := range []string{"/b", "/c", "/e"} {
		call{op: "RemoveAll", s: n}.on(m)
	}
	scenes(t, m, func(sc *scene) {
		for i, n := range []int{3, 4, 6, 8, 9} {
			sc.tells(makes(fmt.Sprint("/n", i))[i%2], answer{n: n})
		}
	})
}

// noParent is paths that have no parent, and what find.Parent tells of them, in a tree with the file /f and without /missing.
var noParent = []struct {
	s   string
	err api.Errno
}{
	{"", api.ErrPath}, {"a", api.ErrPath}, {"a/b", api.ErrPath}, {"./a", api.ErrPath},
	{"/", api.ErrPath}, {"//", api.ErrPath}, {"/.", api.ErrPath}, {"/..", api.ErrPath}, {"/f/..", api.ErrPath},
	{"/" + rep("n", 57), api.ErrName}, {"/\x00", api.ErrName}, {"/missing/\x00/a", api.ErrName}, {"/f/" + rep("n", 57), api.ErrName},
	{rep("/a", 33), api.ErrDeep}, {"/" + rep("a", 1024), api.ErrLong}, {rep("/", 1025), api.ErrLong},
	{"/missing/a", api.ErrMissing}, {"/missing/a/", api.ErrMissing}, {"/d/missing/a", api.ErrMissing}, {"/missing/f/a", api.ErrMissing},
	{"/f/a", api.ErrDir}, {"/f/a/", api.ErrDir}, {"/f/a/b", api.ErrDir}, {"/d/f/a", api.ErrDir},
}

// noLookup is paths that name nothing, and what find.Lookup tells of them there.
var noLookup = []struct {
	s   string
	err api.Errno
}{
	{"", api.ErrPath}, {"f", api.ErrPath}, {"/" + rep("n", 57), api.ErrName}, {"/f/\x00", api.ErrName}, {rep("/a", 33), api.ErrDeep}, {rep("/", 1025), api.ErrLong},
	{"/missing", api.ErrMissing}, {"/missing/", api.ErrMissing}, {"/d/missing", api.ErrMissing}, {"/missing/f", api.ErrMissing},
	{"/f/", api.ErrDir}, {"/f/.", api.ErrDir}, {"/f/a", api.ErrDir}, {"/d/f/", api.ErrDir},
}

// Paths without a parent are told by each call, where it asks for that.
func TestNoParent(t *testing.T) {
	scenes(t, plant("/d/", "/d/f", "/f", "/e/"), func(sc *scene) {
		for _, c := range noParent {
			sc.fails(c.err, makes(c.s)...)
			sc.fails(c.err, of("Unlink", c.s)...)
			sc.fails(c.err, of("Rmdir", c.s)...)
			sc.fails(c.err, of("RemoveAll", c.s)...)
			sc.fails(c.err, from("Link", "/f", c.s), from("Rename", c.s, "/g"), from("Rename", "/f", c.s), from("Rename", "/e", c.s), from("Copy", "/f", c.s), from("Copy", "/e", c.s))
		}
		for _, c := range noLookup {
			sc.fails(c.err, from("Link", c.s, "/g"), from("Copy", c.s, "/g"), from("Same", c.s, "/f"), from("Same", "/f", c.s), from("Same", "/e", c.s))
		}
	})
}

// What asks can't be made as a file; what is there can't be made again, as whatever.
func TestMakeWhatMayNotBe(t *testing.T) {
	scenes(t, plant("/d/", "/d/e/", "/d/f", "/f", "/g = /f"), func(sc *scene) {
		sc.fails(api.ErrIsDir, of("Create", "/a/", "/a/.", "/a/b/..", "/d/a/", "/d/", "/f/", "/d/e/.", "/d/f/.")...)
		sc.fails(api.ErrThere, makes("/d", "/f", "/g", "/d/e", "/d/f", "/d/../f", "//f")...)
		sc.fails(api.ErrThere, of("Mkdir", "/d/", "/f/", "/d/e/..", "/d/f/.")...)
	})
}

// crowd is a tree in which all numbers are in use, one directory is full, and one file has MaxLinks: /full has MaxEntries, /many is the rest, /d and /d/e are directories, /f and /d/f files.
func crowd(many int) model {
	m := plant("/full/", "/many/", "/d/", "/d/e/", "/f", "/d/f")
	full := m.number("/full")
	var l []api.Link
	for len(l) < 16384 {
		n, _ := m.make(api.KindFile, 1)
		f := m[n]
		f.links = min(1000, 16384-len(l))
		for i := range f.links {
			l = append(l, api.Link{Inode: n, Name: fmt.Sprintf("l%d.%d", n, i)})
		}
		m[n] = f
	}
	m[full] = thing{kind: api.KindDir, links: 1, stamp: 1, entries: l}
	l = nil
	for len(m) < many {
		n, _ := m.make(api.KindFile, 1)
		l = append(l, api.Link{Inode: n, Name: fmt.Sprintf("n%d", n)})
	}
	m[m.number("/many")] = thing{kind: api.KindDir, links: 1, stamp: 1, entries: l}
	return m
}

// apartEach does calls, each on inodes of its own.
func (sc *scene) apartEach(want answer, calls ...call) {
	sc.t.Helper()
	for _, c := range calls {
		sc.apart(func(sc *scene) { sc.tells(c, want) })
	}
}

// crowded does something in a crowd: inodes are laid once, and each scene is apart.
func crowded(t *testing.T, many int, do func(sc *scene)) {
	t.Helper()
	m := crowd(many)
	do(&scene{t, made(t, 16, 0).laid(m), m, 1})
}

// The crowd is what its words say.
func TestCrowd(t *testing.T) {
	t.Parallel()
	m := crowd(4096)
	if len(m) != 4096 || m.numbers()[4095] != 4096 {
		t.Errorf("%d are in use", len(m))
	}
	d := m[m.number("/full")]
	if len(d.entries) != api.MaxEntries || m[d.entries[0].Inode].links != api.MaxLinks {
		t.Errorf("%d entries, %d links", len(d.entries), m[d.entries[0].Inode].links)
	}
	if slices.ContainsFunc(d.entries, func(e api.Link) bool { return name.Check(e.Name) != api.OK }) {
		t.Error("there are entries whose names are none")
	}
}

// Where all numbers are in use nothing is made; where one is free it is, and then no more.
func TestNoNumberIsFree(t *testing.T) {
	t.Parallel()
	crowded(t, 4096, func(sc *scene) {
		sc.apartEach(answer{err: api.ErrInodes}, makes("/a", "/d/e/a")...)
		sc.apartEach(answer{err: api.ErrInodes}, from("Copy", "/f", "/a"), from("Copy", "/d/e", "/a"), from("Copy", "/d", "/a"))
		for i, c := range makes("/a", "/d/e/a") {
			sc.apart(func(sc *scene) {
				sc.tells(call{op: "Unlink", s: "/many/n4096"}, answer{n: 4096})
				sc.tells(c, answer{n: 4096})
				sc.fails(api.ErrInodes, makes("/b", "/d/e/b")[i])
			})
		}
	})
}

// In a directory with MaxEntries nothing is made; with one less it is, and then no more.
func TestFullDirectory(t *testing.T) {
	t.Parallel()
	crowded(t, 40, func(sc *scene) {
		sc.apartEach(answer{err: api.ErrFull}, makes("/full/a")...)
		sc.apartEach(answer{err: api.ErrFull}, from("Link", "/f", "/full/a"), from("Copy", "/f", "/full/a"), from("Copy", "/d", "/full/a"), from("Rename", "/f", "/full/a"), from("Rename", "/d/e", "/full/a"))
		for _, c := range append(makes("/full/a"), from("Link", "/f", "/full/a"), from("Copy", "/f", "/full/a"), from("Copy", "/d", "/full/a"), from("Rename", "/d/f", "/full/a")) {
			sc.apart(func(sc *scene) {
				sc.does(call{op: "Unlink", s: "/full/l8.7"})
				if a := sc.does(c); a.err != api.OK {
					t.Errorf("%s = %v", c.brief(), a)
				}
				sc.fails(api.ErrFull, from("Link", "/f", "/full/b"))
			})
		}
	})
}

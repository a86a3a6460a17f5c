package proof_test

import (
	"strings"
	"testing"

	"signet/api"
	"signet/find"
	"signet/proof"
)

// 25.1, 25.2: what a path names.

// everyPath is all paths of the world, and some more that name the same.
func everyPath(b build) []string {
	b.t.Helper()
	all, err := find.All(b.s.Inodes())
	b.ok(err)
	l := []string{"/", "//", "/.", "/..", "/d/", "//d//f", "/d/../one", "/./d/./f", "/d/..", "/x/../d/f", "/many/..//d/", "/d/."}
	for _, f := range all {
		l = append(l, f.Path)
	}
	return l
}

func TestInodeOfEveryPath(t *testing.T) {
	t.Parallel()
	b, s := world(t)
	for _, p := range everyPath(b) {
		i, err := find.Lookup(b.s.Inodes(), p)
		b.ok(err)
		a := b.follows(s, p, 0, 1)
		if a.inodeErr != api.OK || a.number != i.Number || a.size != i.Size || a.sizeErr != api.OK {
			t.Errorf("of %s Inode = %d, %d, Size = %d, %d; want %d of %d bytes", p, a.number, a.inodeErr, a.size, a.sizeErr, i.Number, i.Size)
		}
		if a.inode.Kind != i.Kind || a.inode.Links != i.Links || a.inode.Size != i.Size || a.inode.Stamp != i.Stamp {
			t.Errorf("of %s Inode = %+v; want %+v", p, a.inode, i)
		}
	}
}

func TestInodeWrittenOut(t *testing.T) {
	g := formatted(t, 64)
	want := answers{number: 1, inode: api.Inode{Kind: api.KindDir, Links: 1, Stamp: 1}, makeErr: api.ErrArg}
	got := g.follows(g.slot(), "/", 0, 0)
	want.list = got.list
	g.same("/", got, want)
	b := build{g, g.mount(0)}
	b.dir("/d")
	b.file("/d/f", 300, map[int]string{299: "x"})
	s := b.commit()
	for p, want := range map[string]api.Inode{
		"/":    {Kind: api.KindDir, Links: 1, Size: 64, Stamp: 2},
		"/d":   {Kind: api.KindDir, Links: 1, Size: 64, Stamp: 2},
		"/d/f": {Kind: api.KindFile, Links: 1, Size: 300, Stamp: 2, Tree: api.Tree{Height: 1}},
	} {
		a := b.follows(s, p, 0, 0)
		a.inode.Tree.Root = api.Ref{}
		if a.inode != want || a.number != 1+strings.Count(strings.TrimSuffix(p, "/"), "/") {
			t.Errorf("of %s Inode = %d, %+v; want %+v", p, a.number, a.inode, want)
		}
	}
}

// Paths that name nothing, or something else than they ask for.
func TestWrongPaths(t *testing.T) {
	b, s := world(t)
	for p, want := range map[string]api.Errno{
		"/x":                    api.ErrMissing,
		"/x/":                   api.ErrMissing,
		"/x/y/z":                api.ErrMissing,
		"/d/x":                  api.ErrMissing,
		"/none/x":               api.ErrMissing,
		"/none/x/y":             api.ErrMissing,
		"/four/x":               api.ErrMissing,
		"/five/x":               api.ErrMissing,
		"/many/x":               api.ErrMissing,
		"/D":                    api.ErrMissing,
		"/on":                   api.ErrMissing,
		"/one1":                 api.ErrMissing,
		"/one/":                 api.ErrDir,
		"/one/.":                api.ErrDir,
		"/d/f/":                 api.ErrDir,
		"/one/x":                api.ErrDir,
		"/one/x/y":              api.ErrDir,
		"/empty/x":              api.ErrDir,
		"/great/x":              api.ErrDir,
		"/d/f/g":                api.ErrDir,
		"/d/f/g/":               api.ErrDir,
		depth(32) + "/":         api.ErrDir,
		depth(31) + "/x":        api.ErrMissing,
		depth(31) + "/x/":       api.ErrMissing,
		depth(30) + "/x/y":      api.ErrMissing,
		depth(32) + "/../x":     api.ErrMissing,
		"":                      api.ErrPath,
		"one":                   api.ErrPath,
		" /one":                 api.ErrPath,
		depth(33):               api.ErrDeep,
		depth(33) + "/..":       api.ErrDeep,
		depth(32) + "/x":        api.ErrDeep,
		"/\x00":                 api.ErrName,
		"/x/\x00":               api.ErrName,
		"/one/\x00":             api.ErrName,
		"/" + repeat("a", 57):   api.ErrName,
		full(1025):              api.ErrLong,
		"/" + repeat("/", 1024): api.ErrLong,
	} {
		if _, err := find.Lookup(b.s.Inodes(), p); err != want {
			t.Errorf("Lookup of %q = %d; want %d", p, err, want)
		}
		for _, off := range []int{-1, 0, 1} {
			b.same(p, b.ask(b.cache(9), s, p, off, 1), fails(want))
			b.same(p, b.ask(b.s.Cache(), s, p, off, 0), fails(want))
		}
		b.follows(s, p, 0, 1)
	}
}

// repeat is strings.Repeat.
func repeat(s string, many int) string { return strings.Repeat(s, many) }

// The longest path, and the deepest one.
func TestPathsAtTheLimits(t *testing.T) {
	b, s := world(t)
	for _, p := range []string{repeat("/", 1020) + "/one", repeat("/.", 510) + "/one", repeat("/d/..", 204) + "/one", depth(32) + repeat("/..", 300), depth(31) + repeat("/", 962)} {
		if len(p) > api.MaxPath {
			t.Fatalf("%d bytes", len(p))
		}
		if a := b.follows(s, p, 0, 1); a.inodeErr != api.OK {
			t.Errorf("of %d bytes Inode = %d", len(p), a.inodeErr)
		}
	}
	a := b.follows(s, depth(32), 600, 100)
	if a.number != 33 || a.bytes != full(700)[600:] {
		t.Errorf("of 32 names Inode = %d, and Make %q", a.number, a.bytes)
	}
}

// What is not committed is not seen, and what was committed is, though the working form has it no more.
func TestTheWorkingFormIsNotRead(t *testing.T) {
	b := building(t, 200)
	b.dir("/d")
	b.file("/d/f", 5, map[int]string{0: "hello"})
	s := b.commit()
	was := b.follows(s, "/d/f", 1, 3)
	b.write("/d/f", map[int]string{0: "HELLO", 5: full(600)})
	b.file("/d/g", 5, nil)
	b.same("changed", b.ask(b.s.Cache(), s, "/d/f", 1, 3), was)
	b.same("changed", b.follows(s, "/d/f", 1, 3), was)
	if a := b.follows(s, "/d/g", 0, 0); a.inodeErr != api.ErrMissing {
		t.Errorf("what is not committed: Inode = %d, %d", a.number, a.inodeErr)
	}
	if _, err := b.s.New(); err != api.OK || was.bytes != "ell" {
		t.Errorf("%q, %d", was.bytes, err)
	}
	now := b.commit()
	if a := b.follows(now, "/d/f", 1, 3); a.bytes != "ELL" || a.size != 605 {
		t.Errorf("behind a commit Make = %q, Size = %d", a.bytes, a.size)
	}
	if a := b.follows(now, "/d/g", 0, 0); a.number != 4 {
		t.Errorf("behind a commit Inode = %d, %d", a.number, a.inodeErr)
	}
	// The old blocks still stand in the cache by their references, or on the disk.
	b.same("the older slot", b.ask(b.s.Cache(), s, "/d/f", 1, 3), was)
}

// The wanted entry at each place of each leaf.
func TestEveryEntry(t *testing.T) {
	b, s := world(t)
	for _, c := range []struct {
		above string
		many  int
	}{{"/four", 4}, {"/five", 5}, {"/many", 70}} {
		for i := range c.many {
			p := c.above + numbered(i)
			a := b.follows(s, p, 0, 5)
			if a.bytes != "hello" || a.number != 47 {
				t.Fatalf("of %s Make = %q, Inode = %d", p, a.bytes, a.number)
			}
			// The root block, the root directory by a table of three levels, a place, its entries by a tree of two, and the directory.
			at := 256 + 3*256 + 4 + 2*256 + 3*256
			if place := a.text[at : at+4]; place != string([]byte{byte(i), 0, 0, 0}) {
				t.Errorf("of %s the entry's place is %q; want %d", p, place, i)
			}
		}
	}
}

// Size of a directory is that of its entries.
func TestSizes(t *testing.T) {
	b, s := world(t)
	for p, want := range map[string]int{
		"/": 14 * 64, "/none": 0, "/four": 256, "/five": 320, "/many": 4480, "/many/": 4480, "/empty": 0, "/one": 1, "/leaf": 256, "/great": 1048576, "/holes": 5150, depth(31): 64, depth(32): 700,
	} {
		if got, err := proof.Size(b.s.Cache(), s, p); got != want || err != api.OK {
			t.Errorf("Size of %s = %d, %d; want %d", p, got, err, want)
		}
	}
}

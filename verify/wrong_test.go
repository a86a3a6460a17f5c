package verify_test

import (
	"maps"
	"slices"
	"strings"
	"testing"

	"signet/api"
	"signet/verify"
)

// 26.2: trees with right digests that no commit makes. What is not what must be there is ErrProof, where it is met.

func TestTablesThatAreNone(t *testing.T) {
	paths := func(err api.Errno) map[string]api.Errno {
		return map[string]api.Errno{"/": err, "/a": err, "/a/b": err, "/a/": err}
	}
	m := making(t)
	m.tells("junk", m.under(1, 0, m.lay(junk(1))), paths(api.ErrProof))
	m.tells("a node", m.under(1, 0, m.knot(1)), paths(api.ErrProof))
	m.tells("zeros", m.under(1, 0, m.lay(api.Block{})), paths(api.ErrProof))
	root := dirOf(0, 0, api.Ref{})
	for at := range 3 {
		second := m.four(root, fileOf(0, 0, api.Ref{}))
		second[64*at+64] = 9
		m.tells("a neighbour that is no inode", m.under(1, 0, m.lay(second)), paths(api.ErrProof))
	}
	leaf := m.lay(m.four(root))
	m.tells("no node", m.under(5, 1, leaf), paths(api.ErrProof))
	m.tells("a node of a higher level", m.under(5, 1, m.knot(2, leaf)), paths(api.ErrProof))
	m.tells("a node of a lower level", m.under(17, 2, m.knot(1, leaf)), paths(api.ErrProof))
	m.tells("a lower node of a higher level", m.under(17, 2, m.knot(2, m.knot(2, leaf))), paths(api.ErrProof))
	m.tells("a leaf one level too high", m.under(17, 2, m.knot(2, leaf)), paths(api.ErrProof))
	m.tells("none in a node", m.under(5, 1, m.knot(1)), paths(api.ErrProof))
	m.tells("none in a node ahead of the leaf", m.under(5, 1, m.knot(1, api.Ref{}, leaf)), paths(api.ErrProof))
	m.tells("none in a higher node", m.under(17, 2, m.knot(2, api.Ref{}, m.knot(1, leaf))), paths(api.ErrProof))
	m.tells("none in a lower node", m.under(17, 2, m.knot(2, m.knot(1))), paths(api.ErrProof))
	m.tells("a reference of another digest", m.under(1, 0, api.Ref{At: leaf.At}), paths(api.ErrProof))
	right := paths(api.ErrProof)
	right["/"] = api.ErrArg
	m.tells("all right", m.under(5, 1, m.knot(1, leaf)), right)
	m.tells("all right, higher", m.under(17, 2, m.knot(2, m.knot(1, leaf))), right)
	m.tells("a reference with another number", m.under(5, 1, m.knot(1, api.Ref{At: 1 << 31, Sum: leaf.Sum})), right)
}

// Beneath none nothing is taken: a text that has something there is too long.
func TestNothingIsTakenBeneathNone(t *testing.T) {
	m := making(t)
	leaf := m.lay(m.four(dirOf(0, 0, api.Ref{})))
	b := m.blocks[leaf.Sum]
	s := m.under(5, 1, m.knot(1))
	text := m.proof(s, "/", 0, 0)
	if len(text) != 512 {
		t.Fatalf("a text of %d", len(text))
	}
	question{s, "/", 0, "", text + string(b[:])}.is(t, "an inode beneath none", api.ErrProof)
	// Of a file all of whose leaves are none the bytes are zeros.
	for _, x := range []struct {
		size, height, taken int
		root                api.Ref
	}{
		{256, 0, 0, api.Ref{}}, {1, 0, 0, api.Ref{}}, {1000, 1, 0, api.Ref{}}, {5000, 3, 0, api.Ref{}}, {api.MaxFile, 6, 0, api.Ref{}},
		{1000, 1, 1, m.knot(1)}, {5000, 3, 1, m.knot(3)}, {5000, 3, 2, m.knot(3, m.knot(2), m.knot(2))},
	} {
		m := &made{t, m.blocks, m.next}
		root := dirOf(1, 0, m.lay(m.entries(api.Link{Inode: 2, Name: "f"})))
		s := m.under(2, 0, m.lay(m.four(root, fileOf(x.size, x.height, x.root))))
		n := min(256, x.size)
		bytes, text := strings.Repeat("\x00", n), m.proof(s, "/f", 0, n)
		question{s, "/f", 0, bytes, text}.is(t, "zeros", api.OK)
		question{s, "/f", 0, turned(bytes, 0), text}.is(t, "other bytes", api.ErrClaim)
		question{s, "/f", 0, turned(bytes, 8*n-1), text}.is(t, "other bytes", api.ErrClaim)
		question{s, "/f", 0, bytes, text + strings.Repeat("\x00", 256)}.is(t, "a leaf of zeros", api.ErrProof)
		question{s, "/f", 0, "", m.proof(s, "/f", 0, 0)}.is(t, "no bytes", api.OK)
		if more := len(text) - len(m.proof(s, "/f", 0, 0)); more != 256*x.taken {
			t.Errorf("%+v: %d bytes are taken for a leaf", x, more)
		}
		// A proof of no bytes is one of zeros, too, where nothing is taken for them.
		question{s, "/f", 0, bytes, m.proof(s, "/f", 0, 0)}.is(t, "by a proof of no bytes", map[bool]api.Errno{true: api.OK, false: api.ErrProof}[x.taken == 0])
	}
}

// The root directory may be a file, or not in use.
func TestRootsThatAreNoDirectory(t *testing.T) {
	m := making(t)
	m.tells("a file", m.under(1, 0, m.lay(m.four(fileOf(9, 0, api.Ref{})))), map[string]api.Errno{"/": api.ErrDir, "/a": api.ErrDir, "/a/..": api.ErrDir})
	m.tells("not in use", m.under(2, 0, m.lay(m.four(api.Inode{}, dirOf(0, 0, api.Ref{})))), map[string]api.Errno{"/": api.ErrProof, "/a": api.ErrProof})
}

// An entry may name an inode that is not in use, or that the table can't have: there is no proof of it.
func TestEntriesOfInodesNotInUse(t *testing.T) {
	for _, inodes := range []int{2, 4, 5, 16} {
		m := making(t)
		l := []api.Link{{Inode: 2, Name: "f"}, {Inode: 3, Name: "none"}, {Inode: 6, Name: "gone"}, {Inode: 4096, Name: "far"}, {Inode: inodes + 1, Name: "next"}, {Inode: 1, Name: "self"}}
		root := dirOf(6, 1, m.knot(1, m.lay(m.entries(l[:4]...)), m.lay(m.entries(l[4:]...))))
		leaf := m.lay(m.four(root, fileOf(300, 1, api.Ref{})))
		height := 0
		if inodes > 4 {
			height, leaf = 1, m.knot(1, leaf)
		}
		s := m.under(inodes, height, leaf)
		m.tells("entries", s, map[string]api.Errno{
			"/": api.ErrArg, "/f": api.OK, "/self": api.ErrArg, "/self/self/f": api.OK, "/f/": api.ErrDir, "/x": api.ErrProof,
			"/none": api.ErrProof, "/none/": api.ErrProof, "/none/x": api.ErrProof, "/gone": api.ErrProof, "/gone/x": api.ErrProof, "/far": api.ErrProof, "/next": api.ErrProof, "/next/x": api.ErrProof,
		})
		// What lies behind the highest number is not in use, though there is an inode.
		four := m.four(root, fileOf(300, 1, api.Ref{}), fileOf(1, 0, api.Ref{}), fileOf(1, 0, api.Ref{}))
		s = m.under(2, 0, m.lay(four))
		m.tells("beyond the highest", s, map[string]api.Errno{"/f": api.OK, "/none": api.ErrProof})
	}
}

// A number that is too great is told ahead of going: nothing is taken for it, whatever stands there.
func TestNumbersAboveAreNotGoneTo(t *testing.T) {
	m := making(t)
	file := fileOf(0, 0, api.Ref{})
	for _, x := range []struct{ inodes, number int }{{1, 2}, {3, 4}, {4, 5}, {1, 4096}, {15, 16}, {16, 17}, {16, 4096}} {
		root := dirOf(2, 0, m.lay(m.entries(api.Link{Inode: x.number, Name: "a"}, api.Link{Inode: 1, Name: "b"})))
		leaf := m.lay(m.four(root, file, file, file))
		height := 0
		if x.inodes > 4 {
			height, leaf = 1, m.knot(1, leaf, leaf, leaf, leaf)
		}
		s := m.under(x.inodes, height, leaf)
		text := m.proof(s, "/b", 0, 0)
		question{s, "/b", 0, "", text}.is(t, "a directory", api.ErrArg)
		// The names' entries are in one leaf, so the text as far as that serves both.
		at := meantCheck(s, "/b", 0, "", text).places[0]
		way := meantCheck(s, "/b", 0, "", text).blocks
		head := placed(text, at, 0)[:way[1+height+1]+256]
		for _, more := range []string{"", "junk", strings.Repeat("x", 300), text[256 : at+1], text[256:]} {
			q := question{s, "/a", 0, "", head + more}
			q.is(t, "a number above", api.ErrProof)
			q.p = "/a/x"
			q.is(t, "a number above", api.ErrProof)
		}
		if met := meantCheck(s, "/a", 0, "", head+strings.Repeat("x", 300)); len(met.blocks) != 3+height || slices.Contains(met.digested, strings.Repeat("x", 256)) {
			t.Errorf("%d blocks were taken", len(met.blocks))
		}
	}
}

// Leaves of a directory that are no entries.
func TestEntriesThatAreNone(t *testing.T) {
	a, b, c, d, e := api.Link{Inode: 2, Name: "a"}, api.Link{Inode: 2, Name: "b"}, api.Link{Inode: 2, Name: "c"}, api.Link{Inode: 2, Name: "d"}, api.Link{Inode: 2, Name: "e"}
	spoils := map[string]func(m *made) api.Ref{
		"junk":                 func(m *made) api.Ref { return m.lay(junk(1)) },
		"zeros":                func(m *made) api.Ref { return m.lay(api.Block{}) },
		"none":                 func(m *made) api.Ref { return api.Ref{} },
		"an entry too few":     func(m *made) api.Ref { return m.lay(m.entries(a, b)) },
		"an entry too many":    func(m *made) api.Ref { return m.lay(m.entries(a, b, c, d)) },
		"an entry of number 0": func(m *made) api.Ref { x := m.entries(a, b, c); x[128] = 0; return m.lay(x) },
		"a number too great":   func(m *made) api.Ref { x := m.entries(a, b, c); x[129] = 0x20; return m.lay(x) },
		"a byte behind a name": func(m *made) api.Ref { x := m.entries(a, b, c); x[127] = 1; return m.lay(x) },
		"a byte at the end":    func(m *made) api.Ref { x := m.entries(a, b, c); x[255] = 1; return m.lay(x) },
		"a name of a slash":    func(m *made) api.Ref { x := m.entries(a, b, c); x[136] = '/'; return m.lay(x) },
	}
	for _, what := range slices.Sorted(maps.Keys(spoils)) {
		m := making(t)
		file := fileOf(0, 0, api.Ref{})
		s := m.under(2, 0, m.lay(m.four(dirOf(3, 0, spoils[what](m)), file)))
		// The first entry is right, but its leaf is not.
		m.tells(what, s, map[string]api.Errno{"/": api.ErrArg, "/a": api.ErrProof, "/a/x": api.ErrProof, "/x": api.ErrProof})
		links, err := verify.List(nil, s, "/", m.list(s, "/"))
		if len(links) != 0 || err != api.ErrProof {
			t.Errorf("%s: List = %v, %d", what, links, err)
		}
		if err := verify.CheckMissing(nil, s, "/x", m.list(s, "/")); err != api.ErrProof {
			t.Errorf("%s: CheckMissing = %d", what, err)
		}
		// As the second leaf of two it has no part in what is in the first one.
		s = m.under(2, 0, m.lay(m.four(dirOf(7, 1, m.knot(1, m.lay(m.entries(e, d, c, b)), spoils[what](m))), file)))
		m.tells(what, s, map[string]api.Errno{"/": api.ErrArg, "/b": api.OK, "/e": api.OK, "/a": api.ErrProof})
		if links, err := verify.List(nil, s, "/", m.list(s, "/")); len(links) != 0 || err != api.ErrProof {
			t.Errorf("%s: List of two leaves = %v, %d", what, links, err)
		}
	}
}

// Directories whose trees are not of nodes.
func TestDirectoriesWithoutNodes(t *testing.T) {
	m := making(t)
	file := fileOf(0, 0, api.Ref{})
	first := m.lay(m.entries(api.Link{Inode: 2, Name: "a"}, api.Link{Inode: 2, Name: "b"}, api.Link{Inode: 2, Name: "c"}, api.Link{Inode: 2, Name: "d"}))
	last := m.lay(m.entries(api.Link{Inode: 2, Name: "e"}))
	for what, x := range map[string]struct {
		tree api.Ref
		want map[string]api.Errno
	}{
		"right":                  {m.knot(1, first, last), map[string]api.Errno{"/a": api.OK, "/d": api.OK, "/e": api.OK}},
		"none":                   {api.Ref{}, map[string]api.Errno{"/a": api.ErrProof, "/e": api.ErrProof}},
		"a leaf":                 {first, map[string]api.Errno{"/a": api.ErrProof, "/e": api.ErrProof}},
		"a higher node":          {m.knot(2, first, last), map[string]api.Errno{"/a": api.ErrProof, "/e": api.ErrProof}},
		"a node of none":         {m.knot(1), map[string]api.Errno{"/a": api.ErrProof, "/e": api.ErrProof}},
		"a node without a first": {m.knot(1, api.Ref{}, last), map[string]api.Errno{"/a": api.ErrProof, "/e": api.OK}},
		"a node without a last":  {m.knot(1, first), map[string]api.Errno{"/a": api.OK, "/e": api.ErrProof}},
		"turned round":           {m.knot(1, last, first), map[string]api.Errno{"/a": api.ErrProof, "/e": api.ErrProof}},
		"another last":           {m.knot(1, first, api.Ref{}, last), map[string]api.Errno{"/a": api.OK, "/e": api.ErrProof}},
	} {
		s := m.under(2, 0, m.lay(m.four(dirOf(5, 1, x.tree), file)))
		m.tells(what, s, x.want)
		want := api.ErrProof
		if what == "right" {
			want = api.OK
		}
		if links, err := verify.List(nil, s, "/", m.list(s, "/")); err != want || err != api.OK && len(links) != 0 {
			t.Errorf("%s: List = %v, %d; want %d", what, links, err, want)
		}
	}
}

// Files whose trees are not of nodes.
func TestFilesWithoutNodes(t *testing.T) {
	m := making(t)
	leaf := m.lay(api.Block{0: 'x', 255: 'y'})
	zero := m.lay(api.Block{})
	root := dirOf(1, 0, m.lay(m.entries(api.Link{Inode: 2, Name: "f"})))
	for what, x := range map[string]struct {
		tree          api.Ref
		height, taken int
		want          api.Errno
	}{
		"a leaf":                       {leaf, 0, 1, api.OK},
		"a node":                       {m.knot(1, leaf), 1, 2, api.OK},
		"two nodes":                    {m.knot(2, m.knot(1, leaf)), 2, 3, api.OK},
		"a leaf for a node":            {leaf, 1, 0, api.ErrProof},
		"a node for a leaf":            {m.knot(1, leaf), 0, 0, api.ErrClaim},
		"a higher node":                {m.knot(2, leaf), 1, 0, api.ErrProof},
		"a lower node":                 {m.knot(1, leaf), 2, 0, api.ErrProof},
		"a higher node beneath":        {m.knot(2, m.knot(2, leaf)), 2, 0, api.ErrProof},
		"a leaf beneath":               {m.knot(2, leaf), 2, 0, api.ErrProof},
		"none":                         {api.Ref{}, 0, 0, api.ErrClaim},
		"none beneath":                 {m.knot(1), 1, 0, api.ErrClaim},
		"a leaf of zeros":              {zero, 0, 0, api.ErrClaim},
		"a leaf of zeros, a neighbour": {m.knot(1, zero, leaf), 1, 0, api.ErrClaim},
	} {
		s := m.under(2, 0, m.lay(m.four(root, fileOf([]int{256, 1024, 4096}[x.height], x.height, x.tree))))
		text := m.proof(s, "/f", 0, 256)
		question{s, "/f", 0, "x", text}.is(t, what, x.want)
		question{s, "/f", 0, "x" + strings.Repeat("\x00", 254) + "y", text}.is(t, what, x.want)
		question{s, "/f", 0, "", m.proof(s, "/f", 0, 0)}.is(t, what+", no bytes", api.OK)
		if x.want == api.OK {
			if n := len(meantCheck(s, "/f", 0, "x", text).blocks); n != 4+x.taken {
				t.Errorf("%s: %d blocks are taken", what, n)
			}
		}
	}
	// A leaf that is laid of zeros is one of zeros, and is taken.
	s := m.under(2, 0, m.lay(m.four(root, fileOf(256, 0, zero))))
	question{s, "/f", 9, "\x00\x00", m.proof(s, "/f", 0, 1)}.is(t, "zeros", api.OK)
	question{s, "/f", 9, "\x00\x00", m.proof(s, "/f", 0, 0)}.is(t, "zeros that are not there", api.ErrProof)
}

// The highest trees, of the most inodes, the most bytes and the most entries.
func TestTheHighestTrees(t *testing.T) {
	m := making(t)
	leaf, last := m.lay(api.Block{1: 'a'}), m.lay(api.Block{1: 'a', 255: 'z'})
	file := fileOf(api.MaxFile, 6, m.repeated(6, leaf, last))
	names := make([]api.Link, 4)
	for i := range names {
		names[i] = api.Link{Inode: 4096, Name: string(rune('a' + i))}
	}
	few := m.lay(m.entries(names...))
	names[3].Name = "z"
	dir := dirOf(api.MaxEntries, 6, m.repeated(6, few, m.lay(m.entries(names...))))
	s := m.under(4096, 5, m.repeated(5, m.lay(m.four(dir)), m.lay(m.four(dir, dir, dir, file))))
	text := m.proof(s, "/z", api.MaxFile-1, 1)
	if at := meantCheck(s, "/z", api.MaxFile-1, "z", text).places[0]; text[at:at+4] != "\xff\x3f\x00\x00" {
		t.Errorf("the place is %q", text[at:at+4])
	}
	question{s, "/z", api.MaxFile - 1, "z", text}.is(t, "the last byte", api.OK)
	question{s, "/z", api.MaxFile - 1, "y", text}.is(t, "another last byte", api.ErrClaim)
	question{s, "/z", api.MaxFile - 1, "zz", text}.is(t, "a byte more", api.ErrRange)
	question{s, "/z", 1, "a", m.proof(s, "/z", 1, 1)}.is(t, "the first leaf", api.OK)
	question{s, "/z", 700*256 + 1, "a\x00", m.proof(s, "/z", 700*256+1, 2)}.is(t, "a leaf in the middle", api.OK)
	if n, err := verify.Taken(nil, s, "/z", m.proof(s, "/z", 0, 0)); n != 1+6+7+6 || err != api.OK {
		t.Errorf("Taken = %d, %d", n, err)
	}
	place := meantCheck(s, "/z", api.MaxFile-1, "z", text).places[0]
	question{s, "/z", api.MaxFile - 1, "z", placed(text, place, 16384)}.is(t, "a place too far", api.ErrProof)
	question{s, "/z", api.MaxFile - 1, "z", placed(text, place, 3)}.is(t, "another leaf's place", api.ErrTampered)
	links, err := verify.List(nil, s, "/", m.list(s, "/"))
	if err != api.OK || len(links) != api.MaxEntries {
		t.Fatalf("List has %d entries, %d", len(links), err)
	}
	if links[0].Name != "a" || links[4096].Name != "b" || links[8192].Name != "c" || links[12288].Name != "d" || links[16382].Name != "d" || links[16383].Name != "z" {
		t.Error("List is not sorted")
	}
}

package proof_test

import (
	"strings"
	"testing"

	"signet/api"
)

// Trees with right digests that no commit makes: what is not what must be there is told, where it is met.

func TestTablesThatAreNone(t *testing.T) {
	paths := func(err api.Errno) map[string]api.Errno {
		return map[string]api.Errno{"/": err, "/a": err, "/a/b": err, "/a/": err, "": api.ErrPath}
	}
	m := making(t)
	m.tells("junk", m.under(1, 0, m.lay(junk(1))), paths(api.ErrInode))
	m.tells("a node", m.under(1, 0, m.knot(1)), paths(api.ErrInode))
	m.tells("zeros", m.under(1, 0, m.lay(api.Block{})), paths(api.ErrNone))
	root := dirOf(0, 0, api.Ref{})
	second := m.four(root, fileOf(0, 0, api.Ref{}))
	second[64] = 9
	m.tells("a neighbour that is no inode", m.under(1, 0, m.lay(second)), paths(api.ErrInode))
	leaf := m.lay(m.four(root))
	m.tells("no node", m.under(5, 1, leaf), paths(api.ErrNode))
	m.tells("a node of a higher level", m.under(5, 1, m.knot(2, leaf)), paths(api.ErrNode))
	m.tells("a node of a lower level", m.under(17, 2, m.knot(1, leaf)), paths(api.ErrNode))
	m.tells("a lower node of another level", m.under(17, 2, m.knot(2, m.knot(2, leaf))), paths(api.ErrNode))
	m.tells("none in a node", m.under(5, 1, m.knot(1)), paths(api.ErrNone))
	m.tells("none in a higher node", m.under(17, 2, m.knot(2, api.Ref{}, m.knot(1, leaf))), paths(api.ErrNone))
	m.tells("a reference past the disk", m.under(5, 1, m.knot(1, api.Ref{At: 256, Sum: leaf.Sum})), paths(api.ErrTampered))
	m.tells("a reference of another digest", m.under(5, 1, m.knot(1, api.Ref{At: leaf.At})), paths(api.ErrTampered))
	m.tells("all right", m.under(5, 1, m.knot(1, leaf)), map[string]api.Errno{"/": api.OK, "/a": api.ErrMissing})
}

// The root directory may be a file, or not in use.
func TestRootsThatAreNoDirectory(t *testing.T) {
	m := making(t)
	m.tells("a file", m.under(1, 0, m.lay(m.four(fileOf(9, 0, api.Ref{})))), map[string]api.Errno{"/": api.ErrDir, "/a": api.ErrDir, "/a/..": api.ErrDir})
	m.tells("not in use", m.under(2, 0, m.lay(m.four(api.Inode{}, dirOf(0, 0, api.Ref{})))), map[string]api.Errno{"/": api.ErrNone, "/a": api.ErrNone})
}

// An entry may name an inode that is not in use, or that the table can't have: there is no proof of it.
func TestEntriesOfInodesNotInUse(t *testing.T) {
	for _, inodes := range []int{2, 4, 5, 16} {
		m := making(t)
		l := []api.Link{{Inode: 2, Name: "f"}, {Inode: 3, Name: "none"}, {Inode: 6, Name: "gone"}, {Inode: 4096, Name: "far"}, {Inode: inodes + 1, Name: "next"}, {Inode: 1, Name: "self"}}
		root := dirOf(6, 1, m.knot(1, m.lay(m.entries(l[:4]...)), m.lay(m.entries(l[4:]...))))
		leaf := m.lay(m.four(root, fileOf(300, 1, api.Ref{})))
		height := 0
		if inodes > 4 {
			height, leaf = 1, m.knot(1, leaf)
		}
		s := m.under(inodes, height, leaf)
		m.tells("entries", s, map[string]api.Errno{
			"/": api.OK, "/f": api.OK, "/self": api.OK, "/self/self/f": api.OK, "/f/": api.ErrDir, "/x": api.ErrMissing,
			"/none": api.ErrNone, "/none/": api.ErrNone, "/none/x": api.ErrNone, "/gone": api.ErrNone, "/gone/x": api.ErrNone, "/far": api.ErrNone, "/next": api.ErrNone, "/next/x": api.ErrNone,
		})
		// What lies behind the highest number is not in use, though there is an inode.
		four := m.four(root, fileOf(300, 1, api.Ref{}), fileOf(1, 0, api.Ref{}), fileOf(1, 0, api.Ref{}))
		s = m.under(2, 0, m.lay(four))
		m.tells("beyond the highest", s, map[string]api.Errno{"/f": api.OK, "/none": api.ErrNone})
	}
}

// Leaves of a directory that are no entries.
func TestEntriesThatAreNone(t *testing.T) {
	a, b, c, d, e := api.Link{Inode: 2, Name: "a"}, api.Link{Inode: 2, Name: "b"}, api.Link{Inode: 2, Name: "c"}, api.Link{Inode: 2, Name: "d"}, api.Link{Inode: 2, Name: "e"}
	for what, spoil := range map[string]func(m *made) api.Ref{
		"junk":                 func(m *made) api.Ref { return m.lay(junk(1)) },
		"zeros":                func(m *made) api.Ref { return m.lay(api.Block{}) },
		"none":                 func(m *made) api.Ref { return api.Ref{} },
		"an entry too few":     func(m *made) api.Ref { return m.lay(m.entries(a, b)) },
		"an entry too many":    func(m *made) api.Ref { return m.lay(m.entries(a, b, c, d)) },
		"an entry of number 0": func(m *made) api.Ref { x := m.entries(a, b, c); x[128] = 0; return m.lay(x) },
		"a byte behind a name": func(m *made) api.Ref { x := m.entries(a, b, c); x[127] = 1; return m.lay(x) },
		"a byte at the end":    func(m *made) api.Ref { x := m.entries(a, b, c); x[255] = 1; return m.lay(x) },
	} {
		m := making(t)
		file := fileOf(0, 0, api.Ref{})
		s := m.under(2, 0, m.lay(m.four(dirOf(3, 0, spoil(m)), file)))
		m.tells(what, s, map[string]api.Errno{"/": api.OK, "/a": api.ErrEntry, "/b": api.ErrEntry, "/x": api.ErrEntry, "/a/x": api.ErrEntry})
		if got := m.follows(s, "/", 0, 0); got.listErr != api.ErrEntry {
			t.Errorf("%s: List = %d", what, got.listErr)
		}
		// Behind a leaf that is right: it is met where the name is not in that one.
		first := m.lay(m.entries(a, b, c, d))
		s = m.under(2, 0, m.lay(m.four(dirOf(7, 1, m.knot(1, first, spoil(m))), file)))
		m.tells(what+" behind", s, map[string]api.Errno{"/": api.OK, "/a": api.OK, "/d": api.OK, "/e": api.ErrEntry, "/x": api.ErrEntry, "/a/x": api.ErrDir})
		if got := m.follows(s, "/", 0, 0); got.listErr != api.ErrEntry {
			t.Errorf("%s behind: List = %d", what, got.listErr)
		}
		// Ahead of one that is right: it is met first.
		s = m.under(2, 0, m.lay(m.four(dirOf(5, 1, m.knot(1, spoil(m), m.lay(m.entries(e)))), file)))
		if what != "an entry too many" {
			m.tells(what+" ahead", s, map[string]api.Errno{"/": api.OK, "/a": api.ErrEntry, "/e": api.ErrEntry})
		}
	}
}

// Nodes of a directory's tree and of a file's that are none, or of another level.
func TestNodesThatAreNone(t *testing.T) {
	for what, spoil := range map[string]func(m *made, leaf api.Ref) api.Ref{
		"junk":          func(m *made, _ api.Ref) api.Ref { return m.lay(junk(1)) },
		"zeros":         func(m *made, _ api.Ref) api.Ref { return m.lay(api.Block{}) },
		"a higher node": func(m *made, leaf api.Ref) api.Ref { return m.knot(2, leaf) },
		"a leaf":        func(_ *made, leaf api.Ref) api.Ref { return leaf },
	} {
		m := making(t)
		leaf := m.lay(m.entries(api.Link{Inode: 2, Name: "a"}, api.Link{Inode: 2, Name: "b"}, api.Link{Inode: 2, Name: "c"}, api.Link{Inode: 2, Name: "d"}))
		file := fileOf(1000, 1, spoil(m, leaf))
		s := m.under(2, 0, m.lay(m.four(dirOf(5, 1, spoil(m, leaf)), file)))
		m.tells(what, s, map[string]api.Errno{"/": api.OK, "/a": api.ErrNode, "/x": api.ErrNode})
		if got := m.follows(s, "/", 0, 0); got.listErr != api.ErrNode {
			t.Errorf("%s: List = %d", what, got.listErr)
		}
		s = m.under(2, 0, m.lay(m.four(dirOf(4, 0, leaf), file)))
		m.tells(what, s, map[string]api.Errno{"/a": api.OK, "/d": api.OK, "/a/x": api.ErrDir})
		for _, at := range [][2]int{{0, 1}, {999, 1}, {0, 1000}} {
			if got := m.follows(s, "/a", at[0], at[1]); got.makeErr != api.ErrNode {
				t.Errorf("%s: Make = %d", what, got.makeErr)
			}
		}
		if got := m.follows(s, "/a", 1000, 0); got.makeErr != api.OK || got.size != 1000 {
			t.Errorf("%s: Make of nothing = %d", what, got.makeErr)
		}
		// A lower node is met by the bytes beneath it alone.
		right := m.knot(1, m.lay(block("x")), api.Ref{}, m.lay(block("y")))
		file = fileOf(3000, 2, m.knot(2, right, spoil(m, leaf)))
		s = m.under(2, 0, m.lay(m.four(dirOf(4, 0, leaf), file)))
		for at, want := range map[[2]int]api.Errno{{0, 1024}: api.OK, {0, 1025}: api.ErrNode, {1024, 1}: api.ErrNode, {1023, 1}: api.OK, {2048, 952}: api.OK} {
			if got := m.follows(s, "/a", at[0], at[1]); got.makeErr != want {
				t.Errorf("%s: Make of %d from %d on = %d; want %d", what, at[1], at[0], got.makeErr, want)
			}
		}
	}
}

// block is one that is full of a letter.
func block(letter string) api.Block {
	return api.Block([]byte(strings.Repeat(letter, 256)))
}

// Of two entries of one name the first one is taken, and of a list of two both stand by their inodes.
func TestTwoEntriesOfOneName(t *testing.T) {
	m := making(t)
	leaf := m.lay(m.entries(api.Link{Inode: 3, Name: "a"}, api.Link{Inode: 2, Name: "a"}))
	s := m.under(3, 0, m.lay(m.four(dirOf(2, 0, leaf), fileOf(2, 0, api.Ref{}), fileOf(3, 0, api.Ref{}))))
	if a := m.follows(s, "/a", 0, 0); a.number != 3 || a.size != 3 {
		t.Errorf("Inode = %d of %d bytes", a.number, a.size)
	}
	a := m.ask(m.cache(0), s, "/", 0, 0)
	if len(a.links) != 2 || a.links[0].Inode != 2 || a.links[1].Inode != 3 || a.listErr != api.OK {
		t.Errorf("List = %v, %d", a.links, a.listErr)
	}
}

// A directory may hang beneath itself: a path goes through it as often as it names it.
func TestDirectoriesInThemselves(t *testing.T) {
	m := making(t)
	leaf := m.lay(m.entries(api.Link{Inode: 1, Name: "n"}, api.Link{Inode: 2, Name: "f"}))
	s := m.under(2, 0, m.lay(m.four(dirOf(2, 0, leaf), fileOf(2, 0, m.lay(block("x"))))))
	for many := range 32 {
		a := m.follows(s, depth(many)+"/f", 0, 2)
		if a.bytes != "xx" || len(a.text) != 256*(3+2*(many+1))+4*(many+1) {
			t.Errorf("through %d names Make = %q, a text of %d, %d", many, a.bytes, len(a.text), a.makeErr)
		}
		if a := m.follows(s, depth(many)+"/", 0, 0); a.number != 1 || len(a.links) != 2 {
			t.Errorf("of %d names Inode = %d, List = %v", many, a.number, a.links)
		}
	}
}

// What is behind a file's size is not told, whatever stands there.
func TestBytesBehindTheSize(t *testing.T) {
	m := making(t)
	leaf := m.lay(m.entries(api.Link{Inode: 2, Name: "f"}))
	s := m.under(2, 0, m.lay(m.four(dirOf(1, 0, leaf), fileOf(300, 1, m.knot(1, m.lay(block("x")), m.lay(block("y")), m.lay(block("z")))))))
	if a := m.follows(s, "/f", 250, 50); a.bytes != "xxxxxx"+strings.Repeat("y", 44) {
		t.Errorf("Make = %q, %d", a.bytes, a.makeErr)
	}
	if a := m.follows(s, "/f", 250, 51); a.makeErr != api.ErrRange {
		t.Errorf("Make of one more = %q, %d", a.bytes, a.makeErr)
	}
}

// Places of entries that one byte can't hold, to the greatest one that a directory can have.
func TestGreatPlaces(t *testing.T) {
	for height := range 7 {
		m := making(t)
		var four, end []api.Link
		for i := range 4 {
			four = append(four, api.Link{Inode: 2, Name: numbered(i)[1:]})
			end = append(end, api.Link{Inode: 2, Name: numbered(4 + i)[1:]})
		}
		count := 4 << (2 * height)
		dir := dirOf(count, height, m.repeated(height, m.lay(m.entries(four...)), m.lay(m.entries(end...))))
		s := m.under(2, 0, m.lay(m.four(dir, fileOf(0, 0, api.Ref{}))))
		for i, l := range end {
			place, want := count-4+i, m.told(s, asked{"/" + l.Name, 0, 0})
			a := m.ask(m.cache(100), s, "/"+l.Name, 0, 0)
			m.same("the last leaf", a, want)
			// Behind the root block and the root directory's inode.
			if got := a.text[512:516]; got != string([]byte{byte(place), byte(place >> 8), 0, 0}) {
				t.Errorf("the place %d stands there as %x", place, got)
			}
		}
	}
}

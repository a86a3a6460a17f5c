package proof_test

import (
	"math"
	"testing"

	"signet/api"
)

// Where two errors may be met, that one is told which comes first in the chapter.

func TestThePathComesAheadOfTheSlot(t *testing.T) {
	b, right := small(t, 64)
	tampered := right
	tampered.Root.Sum[0]++
	for _, s := range []api.Slot{{}, {Counter: 2}, tampered, {Counter: 9, Root: right.Root}} {
		for p, want := range map[string]api.Errno{"": api.ErrPath, "d/f": api.ErrPath, depth(33): api.ErrDeep, "/d/\x00": api.ErrName, full(1025): api.ErrLong} {
			b.same(p, b.ask(b.cache(0), s, p, -1, 7), fails(want))
		}
	}
	b.dies()
	b.same("without power", b.ask(b.cache(0), right, "d", 0, 0), fails(api.ErrPath))
	b.same("without power", b.ask(b.cache(0), right, "/d", 0, 0), fails(api.ErrCut))
	b.same("without power", b.ask(b.cache(0), api.Slot{Counter: 1, Root: api.Ref{At: 64}}, "/d", 0, 0), fails(api.ErrTampered))
	b.same("without power", b.ask(b.cache(0), tampered, "/d", 0, 0), fails(api.ErrCut))
}

func TestTheRootComesAheadOfAll(t *testing.T) {
	b, right := small(t, 64)
	odd := b.put(40, junk(1))
	paths := []string{"/", "/d/f", "/x", "/d/f/x", "/d/f/"}
	for _, p := range paths {
		// No root, and another counter.
		b.same("no root", b.ask(b.cache(0), api.Slot{Counter: 77, Root: odd}, p, 0, 0), fails(api.ErrSuper))
	}
	b.over(b.s.Root().Table.Root.At)
	for _, p := range paths {
		b.same("another counter, and the table written over", b.ask(b.cache(0), api.Slot{Counter: 77, Root: right.Root}, p, 0, 0), fails(api.ErrArg))
		b.same("the table written over", b.ask(b.cache(0), right, p, -1, 0), fails(api.ErrTampered))
	}
	b.over(40)
	b.same("no root, written over", b.ask(b.cache(0), api.Slot{Counter: 77, Root: odd}, "/", 0, 0), fails(api.ErrTampered))
}

// Names are gone through one by one: what is behind the one that is wrong is not met.
func TestNameByName(t *testing.T) {
	m := making(t)
	gone := api.Ref{At: 200, Sum: api.Sum{1}}
	file := fileOf(300, 1, gone)
	wrong := m.entries(api.Link{Inode: 3, Name: "x"})
	wrong[100] = 1
	inner := dirOf(1, 0, m.lay(wrong))
	lost := dirOf(9, 1, gone)
	root := dirOf(3, 0, m.lay(m.entries(api.Link{Inode: 2, Name: "f"}, api.Link{Inode: 3, Name: "wrong"}, api.Link{Inode: 4, Name: "lost"})))
	s := m.under(4, 0, m.lay(m.four(root, file, inner, lost)))
	m.tells("name by name", s, map[string]api.Errno{
		"/f": api.OK, "/f/": api.ErrDir, "/f/x": api.ErrDir, "/f/x/": api.ErrDir,
		"/wrong": api.OK, "/wrong/": api.OK, "/wrong/x": api.ErrEntry, "/wrong/y/z": api.ErrEntry,
		"/lost": api.OK, "/lost/": api.OK, "/lost/x": api.ErrTampered, "/lost/x/": api.ErrTampered,
		"/x": api.ErrMissing, "/x/": api.ErrMissing, "/x/f": api.ErrMissing,
	})
	for _, c := range []struct {
		p      string
		off, n int
		want   api.Errno
	}{
		{"/f", 0, 0, api.OK}, {"/f", 300, 0, api.OK}, {"/f", 0, 1, api.ErrTampered}, {"/f", 299, 1, api.ErrTampered},
		// The range comes ahead of what is read for it.
		{"/f", 0, 301, api.ErrRange}, {"/f", -1, 1, api.ErrRange}, {"/f", 301, 0, api.ErrRange}, {"/f", math.MaxInt, math.MaxInt, api.ErrRange}, {"/f", 1, math.MaxInt, api.ErrRange},
		// That it is a directory comes ahead of the range; that it must be one ahead of both.
		{"/wrong", 0, 0, api.ErrArg}, {"/wrong", -1, 0, api.ErrArg}, {"/lost", 0, 9999, api.ErrArg}, {"/f/", -1, 0, api.ErrDir}, {"/f/", 0, 301, api.ErrDir},
	} {
		if a := m.follows(s, c.p, c.off, c.n); a.makeErr != c.want {
			t.Errorf("Make of %d bytes of %s from %d on = %d; want %d", c.n, c.p, c.off, a.makeErr, c.want)
		}
	}
	for p, want := range map[string]api.Errno{"/f": api.ErrDir, "/wrong": api.ErrEntry, "/lost": api.ErrTampered, "/": api.OK, "/lost/x": api.ErrTampered, "/f/": api.ErrDir} {
		if a := m.follows(s, p, 0, 0); a.listErr != want {
			t.Errorf("List of %s = %d; want %d", p, a.listErr, want)
		}
	}
}

// Leaves of entries are read from the first on: the fault of the first one is met.
func TestLeafByLeaf(t *testing.T) {
	m := making(t)
	wrong := m.entries(api.Link{Inode: 2, Name: "a"}, api.Link{Inode: 2, Name: "b"}, api.Link{Inode: 2, Name: "c"}, api.Link{Inode: 2, Name: "d"})
	right := m.lay(wrong)
	wrong[255] = 1
	gone, odd, high := api.Ref{At: 200, Sum: api.Sum{1}}, m.lay(wrong), m.knot(2)
	leaf := m.lay(m.entries(api.Link{Inode: 2, Name: "a"}))
	for _, c := range []struct {
		leaves [4]api.Ref
		want   api.Errno
	}{
		{[4]api.Ref{gone, odd, right, leaf}, api.ErrTampered},
		{[4]api.Ref{odd, gone, right, leaf}, api.ErrEntry},
		{[4]api.Ref{right, odd, gone, leaf}, api.ErrEntry},
		{[4]api.Ref{right, gone, odd, leaf}, api.ErrTampered},
		{[4]api.Ref{right, right, odd, gone}, api.ErrEntry},
		{[4]api.Ref{right, right, right, gone}, api.ErrTampered},
		{[4]api.Ref{right, {}, gone, gone}, api.ErrEntry},
		{[4]api.Ref{right, right, right, leaf}, api.ErrMissing},
	} {
		s := m.under(2, 0, m.lay(m.four(dirOf(13, 1, m.knot(1, c.leaves[:]...)), fileOf(0, 0, api.Ref{}))))
		list := c.want
		if c.want == api.ErrMissing {
			list = api.OK
		}
		m.tells("leaf by leaf", s, map[string]api.Errno{"/x": c.want, "/x/y": c.want})
		if a := m.ask(m.cache(0), s, "/", 0, 0); a.listErr != list {
			t.Errorf("List = %d; want %d", a.listErr, list)
		}
	}
	// A wrong node beneath the root's second place is met behind the first leaf alone.
	s := m.under(2, 0, m.lay(m.four(dirOf(20, 2, m.knot(2, m.knot(1, right, right, right, right), high)), fileOf(0, 0, api.Ref{}))))
	m.tells("a node behind", s, map[string]api.Errno{"/a": api.OK, "/d": api.OK, "/x": api.ErrNode})
	s = m.under(2, 0, m.lay(m.four(dirOf(20, 2, m.knot(2, m.knot(1, right, gone), high)), fileOf(0, 0, api.Ref{}))))
	m.tells("a leaf ahead of it", s, map[string]api.Errno{"/a": api.OK, "/x": api.ErrTampered})
}

// Leaves of bytes are read from the first on.
func TestBytesLeafByLeaf(t *testing.T) {
	m := making(t)
	gone, x := api.Ref{At: 200, Sum: api.Sum{1}}, m.lay(block("x"))
	leaf := m.lay(m.entries(api.Link{Inode: 2, Name: "f"}))
	file := fileOf(2048, 2, m.knot(2, m.knot(1, x, gone, api.Ref{}, x), x))
	s := m.under(2, 0, m.lay(m.four(dirOf(1, 0, leaf), file)))
	for at, want := range map[[2]int]api.Errno{
		{0, 256}: api.OK, {0, 257}: api.ErrTampered, {0, 2048}: api.ErrTampered, {300, 1}: api.ErrTampered,
		{512, 512}: api.OK, {512, 513}: api.ErrNode, {1024, 1}: api.ErrNode, {2047, 1}: api.ErrNode, {511, 1000}: api.ErrTampered,
	} {
		if a := m.follows(s, "/f", at[0], at[1]); a.makeErr != want {
			t.Errorf("Make of %d bytes from %d on = %d; want %d", at[1], at[0], a.makeErr, want)
		}
	}
}

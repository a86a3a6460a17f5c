package dir_test

import (
	"maps"
	"slices"
	"testing"

	"signet/api"
	"signet/inodes"
)

// 17.1: leaves whose bytes are no entries.

// bytesAt is a leaf of four entries with bytes laid over it.
func bytesAt(at int, s string) api.Block {
	var b api.Block
	copy(b[:], inBytes(some(4)))
	copy(b[at:], s)
	return b
}

// noEntries is leaves that are not four entries.
func noEntries() map[string]api.Block {
	return map[string]api.Block{
		"zeros":                        {},
		"junk":                         junk(),
		"the first one missing":        bytesAt(0, string(make([]byte, 64))),
		"the last one missing":         bytesAt(192, string(make([]byte, 64))),
		"an inode 0":                   bytesAt(64, "\x00\x00"),
		"an inode above MaxInodes":     bytesAt(64, "\x01\x10"),
		"an inode far above MaxInodes": bytesAt(64+3, "\x01"),
		"a name of no bytes":           bytesAt(128+4, "\x00"),
		"a name shorter than it is":    bytesAt(128+4, "\x05"),
		"a name longer than it is":     bytesAt(128+4, "\x07"),
		"a name of 57 bytes":           bytesAt(192+4, "\x39"),
		"a great length":               bytesAt(192+5, "\x01"),
		"no zeros behind the length":   bytesAt(192+6, "\x01"),
		"no zeros behind those":        bytesAt(192+7, "\x01"),
		"a name with a slash":          bytesAt(8+1, "/"),
		"a name with a zero":           bytesAt(8+1, "\x00"),
		"bytes behind a name":          bytesAt(63, "a"),
	}
}

// with is inodes in which a leaf of a directory has other bytes.
func with(t *testing.T, x *inodes.Inodes, n, place int, b api.Block) *inodes.Inodes {
	t.Helper()
	y := x.Clone()
	if err := y.Set(n, place, b, 1); err != api.OK {
		t.Fatal(err)
	}
	return y
}

// A leaf that is no entries is told by the calls that need it, which change nothing, and by no others.
func TestLeavesThatAreNoEntries(t *testing.T) {
	s := made(t, 256, 8)
	out, m := s.committed()
	for what, b := range noEntries() {
		for place := range 5 {
			y := with(t, s.open(out.Table, out.High), many, place, b)
			before, _ := y.New()
			for _, c := range slices.Concat(telling(), listing(), changing()) {
				x, e := y.Clone(), maps.Clone(m)
				want := answer{err: api.ErrEntry}
				if !slices.Contains(c.needs, at{many, 0, place}) {
					want = c.want(e)
				}
				if got := c.do(x); got != want {
					t.Fatalf("%s with %s in the leaf %d = %s; want %s", c.brief(), what, place, got.brief(), want.brief())
				}
				if want.err != api.OK {
					same(t, c.brief(), x, y)
					isNew(t, c.brief(), x, before)
				}
			}
		}
	}
}

// same asks that two inodes are the same.
func same(t *testing.T, what string, x, y *inodes.Inodes) {
	t.Helper()
	for n := range two {
		i, err := x.Get(n + 1)
		if o, other := y.Get(n + 1); i != o || err != other {
			t.Errorf("%s: Get(%d) = %v, %d; want %v, %d", what, n+1, i, err, o, other)
		}
		for place := range 7 {
			b, err := x.Leaf(n+1, place)
			if o, other := y.Leaf(n+1, place); b != o || err != other {
				t.Errorf("%s: the leaf %d of %d is another one", what, place, n+1)
			}
		}
	}
}

// The last leaf, in part: one of its entries is missing, and, as it is committed, there are bytes behind the size.
func TestLastLeavesThatAreNoEntries(t *testing.T) {
	s := made(t, 256, 8)
	out, m := s.committed()
	for what, b := range map[string]api.Block{"zeros": {}, "a second one missing": bytesAt(64, string(make([]byte, 192))), "a first one missing": bytesAt(0, string(make([]byte, 64)))} {
		y := with(t, s.open(out.Table, out.High), many, 5, b)
		for _, c := range slices.Concat(telling(), listing(), changing()) {
			x, e := y.Clone(), maps.Clone(m)
			want := answer{err: api.ErrEntry}
			if !slices.Contains(c.needs, at{many, 0, 5}) {
				want = c.want(e)
			}
			if got := c.do(x); got != want {
				t.Fatalf("%s with %s in the last leaf = %s; want %s", c.brief(), what, got.brief(), want.brief())
			}
			if want.err != api.OK {
				same(t, c.brief(), x, y)
			}
		}
	}
	for size := 64; size < 256; size += 64 {
		table := s.tableOf(api.Inode{Kind: api.KindDir, Links: 1, Size: size, Stamp: 1, Tree: api.Tree{Root: s.lay(bytesAt(0, ""))}})
		for _, c := range append(plain(1), call{op: "Find", dir: 1, s: of(0)}, call{op: "Remove", dir: 1, s: of(0), stamp: 9}, call{op: "Swap", dir: 1, s: of(0), inode: 2, stamp: 9}) {
			x := s.open(table, 1)
			want := answer{err: api.ErrEntry}
			if c.op == "Count" {
				want = answer{count: size / 64}
			}
			if got := c.do(x); got != want {
				t.Errorf("%s with entries behind the size %d = %s; want %s", c.brief(), size, got.brief(), want.brief())
			}
			isNew(t, c.brief(), x, 0)
		}
	}
}

// In a full directory, too, what is met first is told.
func TestNoEntriesInAFullDirectory(t *testing.T) {
	x, m := made(t, 16, 8).empty(), model{}
	n := putDir(t, x, m, some(api.MaxEntries))
	l := m[n].entries
	y := with(t, x, n, 4095, junk())
	for _, c := range []struct {
		call
		want api.Errno
	}{
		{call{op: "Add", s: "a", inode: 2, stamp: 9}, api.ErrEntry},
		{call{op: "Add", s: l[16379].Name, inode: 2, stamp: 9}, api.ErrThere},
		{call{op: "Add", s: l[16380].Name, inode: 2, stamp: 9}, api.ErrEntry},
		{call{op: "Add", s: "", inode: 2, stamp: 9}, api.ErrName},
		{call{op: "Remove", s: l[0].Name, stamp: 9}, api.ErrEntry},
		{call{op: "Remove", s: "a", stamp: 9}, api.ErrEntry},
		{call{op: "Swap", s: l[0].Name, inode: 2, stamp: 9}, api.OK},
		{call{op: "Swap", s: l[16380].Name, inode: 2, stamp: 9}, api.ErrEntry},
		{call{op: "Entry", n: 16380}, api.ErrEntry},
		{call{op: "Entry", n: 16379}, api.OK},
		{call{op: "Entry", n: 16384}, api.ErrPlace},
	} {
		c.dir = n
		got := c.do(y.Clone())
		if got.err != c.want || c.want != api.OK && got != (answer{err: c.want}) {
			t.Errorf("%s = %s; want error %d", c.brief(), got.brief(), c.want)
		}
	}
}

package branch_test

import (
	"testing"

	"signet/api"
	"signet/inodes"
)

// 22.7

// someOf is calls of each kind with paths that may be, and with such as may not.
func someOf() []call {
	var l []call
	paths := []string{"/", "/a", "/a/", "/a/b", "", "a", "/" + rep("n", 57), rep("/a", 33), rep("/", 1025), "/\x00"}
	for _, op := range ops {
		for _, s := range paths {
			for _, old := range paths {
				l = append(l, call{op: op, old: old, s: s, stamp: 7}, call{op: op, old: old, s: s, stamp: 7, busy: []int{1, 2, 3}})
			}
		}
	}
	return l
}

// On nil Inodes all is ErrArg, ahead of all else that is wrong, with nothing beside it.
func TestNilInodes(t *testing.T) {
	for _, c := range someOf() {
		if got := c.do(nil); got != (answer{err: api.ErrArg}) {
			t.Errorf("%s on nil = %v; want ErrArg", c.brief(), got)
		}
	}
}

// On inodes without a root each call but Begin tells what is wrong with its paths, and then that there is none.
func TestNoRoot(t *testing.T) {
	file := thing{kind: api.KindFile, links: 1, stamp: 1, bytes: "bytes"}
	for _, m := range []model{{}, {2: file}, {2: {kind: api.KindDir, links: 1, stamp: 1}, 9: file}} {
		scenes(t, m, func(sc *scene) {
			for _, c := range someOf() {
				if c.op == "Begin" {
					continue
				}
				if a := sc.does(c); a.err == api.OK {
					t.Fatalf("%s without a root = %v", c.brief(), a)
				}
			}
			sc.fails(api.ErrNone, makes("/a", "/a/b", "/a/b/c")...)
			sc.fails(api.ErrNone, of("Unlink", "/a")...)
			sc.fails(api.ErrNone, of("Rmdir", "/a")...)
			sc.fails(api.ErrNone, of("RemoveAll", "/a", "/a/b")...)
			for _, op := range []string{"Link", "Rename", "Copy", "Same"} {
				sc.fails(api.ErrNone, from(op, "/a", "/b"), from(op, "/a", "b"))
				sc.fails(api.ErrPath, from(op, "a", "/b"))
			}
			if len(sc.m) == 0 {
				sc.tells(call{op: "Begin"}, answer{})
			}
		})
	}
}

// Where inode 1 is a file nothing hangs beneath it.
func TestARootThatIsAFile(t *testing.T) {
	scenes(t, model{1: {kind: api.KindFile, links: 1, stamp: 1, bytes: "bytes"}}, func(sc *scene) {
		sc.fails(api.ErrDir, makes("/a", "/a/b")...)
		sc.fails(api.ErrDir, of("Unlink", "/a")...)
		sc.fails(api.ErrDir, of("Rmdir", "/a")...)
		sc.fails(api.ErrDir, of("RemoveAll", "/a", "/a/b")...)
		for _, op := range []string{"Link", "Rename", "Copy", "Same"} {
			sc.fails(api.ErrDir, from(op, "/a", "/b"))
		}
		sc.fails(api.ErrDir, from("Same", "/", "/"), from("Copy", "/", "/a"))
	})
}

// Trees that calls of this package do not make, but those of lower layers do: directories that hang in themselves, that have two names, names of nothing, and files with too few links. Each call ends, and one that fails has changed nothing.
func TestTreesThatAreNone(t *testing.T) {
	t.Parallel()
	for _, lines := range [][]string{
		{"/a/", "/a/up = /"},
		{"/a/", "/a/self = /a", "/a/f"},
		{"/a/", "/a/b/", "/a/b/up = /a", "/c = /a/b", "/f"},
		{"/a/", "/b = /a", "/a/f", "/f = /a/f"},
		{"/a/", "/a/gone = 77", "/f = 78"},
		{"/a/", "/a/b = 3", "/a/c = 3", "/f"},
		{"/a/", "/a/n/", "/a/n/n = /a", "/b/", "/b/n/", "/b/n/n/", "/b/n/n/n = /b"},
	} {
		m := plant(lines...)
		s := made(t, 256, 16)
		_, out := s.commit(s.laid(m))
		paths := []string{"/", "/a", "/b", "/c", "/f", "/a/up", "/a/up/", "/a/self", "/a/self/n", "/a/gone", "/a/gone/n", "/a/b", "/a/c", "/a/n", "/b/n/n", "/n", "/a/x"}
		for _, op := range ops {
			for _, a := range paths {
				for _, b := range paths {
					// A copy of what hangs in itself takes all numbers, which takes its time.
					if op == "Copy" && b != "/n" {
						continue
					}
					c := call{op: op, old: a, s: b, stamp: 5}
					x := s.open(out.Table, out.High)
					got := c.do(x)
					if got.err == api.OK {
						continue
					}
					if got != (answer{err: got.err}) {
						t.Errorf("%s = %v", c.brief(), got)
					}
					holds(t, c.brief(), x, m)
				}
			}
		}
	}
}

// Directories that hang in themselves in rings of unlike lengths are held against each other in no time.
func TestSameOfRings(t *testing.T) {
	m := plant("/a/", "/b/", "/c/")
	ring := func(n, many int) {
		first := n
		for range many - 1 {
			next, _ := m.make(api.KindDir, 1)
			m.add(n, next, "n", 1)
			n = next
		}
		m.add(n, first, "n", 1)
	}
	ring(2, 701)
	ring(3, 997)
	ring(4, 2)
	m.add(4, 1, "other", 1)
	x := made(t, 16, 0).laid(m)
	if got := from("Same", "/a", "/b").do(x); got.err != api.OK {
		t.Errorf("Same of two rings = %v", got)
	}
	if got := from("Same", "/a", "/c").do(x); got != (answer{}) {
		t.Errorf("Same of two rings that are unlike = %v", got)
	}
}

// What is open may be asked of the inodes themselves, while the call goes on.
func TestBusyThatAsks(t *testing.T) {
	scenes(t, grove(), func(sc *scene) {
		asked := func(x *inodes.Inodes) []answer {
			return []answer{
				call{op: "Unlink", s: "/a/z"}.do(x), call{op: "Rmdir", s: "/e"}.do(x), from("Rename", "/g/h", "/a/z").do(x), call{op: "RemoveAll", s: "/a"}.do(x),
			}
		}
		x := sc.x.Clone()
		want := asked(sc.x.Clone())
		for i, c := range []call{{op: "Unlink", s: "/a/z"}, {op: "Rmdir", s: "/e"}, {op: "Rename", old: "/g/h", s: "/a/z"}, {op: "RemoveAll", s: "/a"}} {
			got := c.doBusy(x, func(n int) bool {
				_, err := x.Get(n)
				return err != api.OK
			})
			if got != want[i] {
				t.Errorf("%s = %v; want %v", c.brief(), got, want[i])
			}
		}
	})
}

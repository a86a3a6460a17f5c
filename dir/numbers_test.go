package dir_test

import (
	"math"
	"testing"

	"signet/api"
)

// 17.1

// plain is a call of each kind, with nothing wrong in it but perhaps the directory.
func plain(n int) []call {
	var l []call
	for _, op := range ops {
		l = append(l, call{op: op, dir: n, s: "a", inode: 2, stamp: 9})
	}
	return l
}

// wrong is a call of each kind with all else that is handed in wrong, too.
func wrong(n int) []call {
	var l []call
	for _, op := range ops {
		for _, number := range []int{-1, api.MaxInodes + 1, math.MinInt, math.MaxInt} {
			l = append(l, call{op: op, dir: n, s: "", inode: number, n: number, stamp: 9}, call{op: op, dir: n, s: "a/b", inode: number, n: number, stamp: 9})
		}
	}
	return l
}

func TestNumbersThatAreNone(t *testing.T) {
	s := made(t, 64, 8)
	x, m := s.empty(), model{}
	putDir(t, x, m, []api.Link{{Inode: 2, Name: "a"}})
	putFile(t, x, m, inBytes([]api.Link{{Inode: 2, Name: "a"}}))
	putDir(t, x, m, []api.Link{{Inode: 2, Name: "a"}})
	putFile(t, x, m, "")
	if x.Drop(3) != api.OK {
		t.Fatal("Drop")
	}
	delete(m, 3)
	for range 2 {
		for _, n := range noNumbers {
			fails(t, x, m, api.ErrNumber, plain(n)...)
			fails(t, x, m, api.ErrNumber, wrong(n)...)
		}
		for _, n := range []int{3, 5, 4095, api.MaxInodes} {
			fails(t, x, m, api.ErrNone, plain(n)...)
			fails(t, x, m, api.ErrNone, wrong(n)...)
		}
		for _, n := range []int{2, 4} {
			fails(t, x, m, api.ErrDir, plain(n)...)
			fails(t, x, m, api.ErrDir, wrong(n)...)
		}
		x, _ = s.commit(x)
	}
}

func TestNoInodesAtAll(t *testing.T) {
	x := made(t, 16, 8).empty()
	for _, n := range []int{1, 2, api.MaxInodes} {
		fails(t, x, model{}, api.ErrNone, plain(n)...)
		fails(t, x, model{}, api.ErrNone, wrong(n)...)
	}
	for _, n := range noNumbers {
		fails(t, x, model{}, api.ErrNumber, plain(n)...)
		fails(t, x, model{}, api.ErrNumber, wrong(n)...)
	}
}

// All numbers that may be, in use, by directories and by files.
func TestAllNumbers(t *testing.T) {
	s := made(t, 8192, 64)
	x, m := s.empty(), model{}
	for i := range api.MaxInodes {
		if i%2 == 0 || i >= api.MaxInodes-2 {
			putDir(t, x, m, nil)
		} else {
			putFile(t, x, m, "")
		}
	}
	for range 2 {
		for _, n := range []int{1, 3, 4095, api.MaxInodes} {
			check(t, x, m, call{op: "Add", dir: n, s: "a", inode: n, stamp: 5})
			check(t, x, m, call{op: "Add", dir: n, s: "b", inode: api.MaxInodes, stamp: 6})
			for _, c := range plain(n) {
				apart(t, x, m, c)
			}
			check(t, x, m, call{op: "List", dir: n})
			check(t, x, m, call{op: "Remove", dir: n, s: "a", stamp: 7})
			check(t, x, m, call{op: "Remove", dir: n, s: "b", stamp: 7})
		}
		for _, n := range []int{2, 4, 4094} {
			fails(t, x, m, api.ErrDir, plain(n)...)
		}
		for _, n := range noNumbers {
			fails(t, x, m, api.ErrNumber, plain(n)...)
		}
		x, _ = s.commit(x)
	}
}

// Of the errors of one call that come behind its directory's, which is told: an inode that is none ahead of a name that is none, that ahead of what is there or missing, and that ahead of a directory that is full.
func TestWhichErrorIsFirst(t *testing.T) {
	x, m := made(t, 16, 8).empty(), model{}
	full := putDir(t, x, m, some(api.MaxEntries))
	one := putDir(t, x, m, []api.Link{{Inode: 2, Name: "a"}})
	there := m[full].entries[api.MaxEntries-1].Name
	for _, i := range noNumbers {
		var l []call
		for _, s := range append([]string{"a", "b", there, long()}, noNames...) {
			for _, n := range []int{full, one} {
				l = append(l, call{op: "Add", dir: n, s: s, inode: i, stamp: 9}, call{op: "Swap", dir: n, s: s, inode: i, stamp: 9})
			}
		}
		fails(t, x, m, api.ErrArg, l...)
	}
	for _, s := range noNames {
		var l []call
		for _, n := range []int{full, one} {
			for _, op := range []string{"Add", "Swap", "Remove", "Find"} {
				l = append(l, call{op: op, dir: n, s: s, inode: 2, stamp: 9})
			}
		}
		fails(t, x, m, api.ErrName, l...)
	}
	fails(t, x, m, api.ErrThere, call{op: "Add", dir: full, s: there, inode: 2, stamp: 9}, call{op: "Add", dir: one, s: "a", inode: 2, stamp: 9})
	fails(t, x, m, api.ErrFull, call{op: "Add", dir: full, s: "b", inode: 2, stamp: 9})
	fails(t, x, m, api.ErrMissing, call{op: "Swap", dir: full, s: "b", inode: 2, stamp: 9}, call{op: "Remove", dir: full, s: "b", stamp: 9}, call{op: "Find", dir: full, s: "b"})
}

package dir_test

import (
	"fmt"
	"maps"
	"math"
	"slices"
	"testing"

	"signet/api"
	"signet/inodes"
)

// 17.3

func TestAdd(t *testing.T) {
	each(t, func(x *inodes.Inodes, m model, n int) {
		for _, e := range []api.Link{{Inode: 1, Name: "a"}, {Inode: api.MaxInodes, Name: long()}, {Inode: 2, Name: "z"}, {Inode: n, Name: "itself"}, {Inode: 4000, Name: "n"}} {
			apart(t, x, m, call{op: "Add", dir: n, s: e.Name, inode: e.Inode, stamp: 9})
		}
		for _, i := range noNumbers {
			fails(t, x, m, api.ErrArg, call{op: "Add", dir: n, s: "a", inode: i, stamp: 9}, call{op: "Add", dir: n, s: "", inode: i, stamp: 9})
		}
		for _, s := range noNames {
			fails(t, x, m, api.ErrName, call{op: "Add", dir: n, s: s, inode: 2, stamp: 9})
		}
		for _, e := range m[n].entries {
			fails(t, x, m, api.ErrThere, call{op: "Add", dir: n, s: e.Name, inode: e.Inode, stamp: 9}, call{op: "Add", dir: n, s: e.Name, inode: 77, stamp: 9})
			apart(t, x, m, call{op: "Add", dir: n, s: e.Name + "x", inode: e.Inode, stamp: 9})
		}
	})
}

// One inode may have several names, in one directory and in several.
func TestAddUnderASecondName(t *testing.T) {
	x, m := made(t, 16, 8).empty(), model{}
	n, o := putDir(t, x, m, nil), putDir(t, x, m, nil)
	for i, s := range []string{"b", "c", "a", long()} {
		check(t, x, m, call{op: "Add", dir: n, s: s, inode: 3, stamp: uint64(i)})
		check(t, x, m, call{op: "Add", dir: o, s: s, inode: 3, stamp: uint64(i)})
	}
	if got := (call{op: "Names", dir: n, inode: 3}).do(x); got != (answer{names: toldNames([]string{"a", "b", "c", long()})}) {
		t.Errorf("Names = %s", got.brief())
	}
	holds(t, "one inode by four names", x, m)
}

// Entries are added up to the last one that may be, and none behind it.
func TestAddUntilItIsFull(t *testing.T) {
	s := made(t, 8192, 64)
	x, m := s.empty(), model{}
	n := putDir(t, x, m, some(api.MaxEntries-5))
	x, _ = s.commit(x)
	for i := range 5 {
		check(t, x, m, call{op: "Add", dir: n, s: fmt.Sprint("last", i), inode: 100 + i, stamp: uint64(10 + i)})
	}
	check(t, x, m, call{op: "Count", dir: n})
	fails(t, x, m, api.ErrFull, call{op: "Add", dir: n, s: "more", inode: 2, stamp: 20}, call{op: "Add", dir: n, s: long(), inode: 2, stamp: 20})
	fails(t, x, m, api.ErrThere, call{op: "Add", dir: n, s: "last4", inode: 2, stamp: 20}, call{op: "Add", dir: n, s: m[n].entries[0].Name, inode: 2, stamp: 20})
	check(t, x, m, call{op: "Swap", dir: n, s: "last2", inode: 2, stamp: 21})
	check(t, x, m, call{op: "Remove", dir: n, s: "last1", stamp: 22})
	check(t, x, m, call{op: "Add", dir: n, s: "more", inode: 2, stamp: 23})
	fails(t, x, m, api.ErrFull, call{op: "Add", dir: n, s: "last1", inode: 2, stamp: 24})
	check(t, x, m, call{op: "List", dir: n})
}

func TestRemove(t *testing.T) {
	each(t, func(x *inodes.Inodes, m model, n int) {
		for _, e := range m[n].entries {
			apart(t, x, m, call{op: "Remove", dir: n, s: e.Name, stamp: 9})
			fails(t, x, m, api.ErrMissing, call{op: "Remove", dir: n, s: e.Name[:5], stamp: 9}, call{op: "Remove", dir: n, s: e.Name + "0", stamp: 9})
		}
		fails(t, x, m, api.ErrMissing, call{op: "Remove", dir: n, s: "a", stamp: 9}, call{op: "Remove", dir: n, s: long(), stamp: 9})
		for _, s := range noNames {
			fails(t, x, m, api.ErrName, call{op: "Remove", dir: n, s: s, stamp: 9})
		}
	})
}

// The last entry takes the place of one that is taken away; the others stay where they are.
func TestPlacesBehindRemove(t *testing.T) {
	for _, many := range sizes {
		for gone := range many {
			x, m := made(t, 16, 8).empty(), model{}
			l := some(many)
			n := putDir(t, x, m, l)
			if got := (call{op: "Remove", dir: n, s: l[gone].Name, stamp: 9}).do(x); got != (answer{inode: l[gone].Inode}) {
				t.Fatalf("Remove of %v = %s", l[gone], got.brief())
			}
			for place := range many - 1 {
				want := l[place]
				if place == gone {
					want = l[many-1]
				}
				if got := (call{op: "Entry", dir: n, n: place}).do(x); got != (answer{link: want}) {
					t.Fatalf("Entry(%d) behind Remove of %d of %d = %s; want %v", place, gone, many, got.brief(), want)
				}
			}
			if got := (call{op: "Count", dir: n}).do(x); got != (answer{count: many - 1}) {
				t.Fatalf("Count = %s; want %d", got.brief(), many-1)
			}
		}
	}
}

// All entries are taken away, from the front, from the end and from the midst, with a commit in between, and come again.
func TestRemoveAllOfThem(t *testing.T) {
	for _, which := range []func(many int) int{
		func(int) int { return 0 },
		func(many int) int { return many - 1 },
		func(many int) int { return max(0, many-2) },
		func(many int) int { return many / 2 },
	} {
		s := made(t, 4096, 8)
		x, m := s.empty(), model{}
		n := putDir(t, x, m, some(22))
		for round := range 2 {
			for many := 22; many > 0; many-- {
				c := call{op: "Remove", dir: n, s: m[n].entries[which(many)].Name, stamp: uint64(many)}
				check(t, x, m, c)
				fails(t, x, m, api.ErrMissing, c)
				if many%5 == round {
					x, _ = s.commit(x)
				}
			}
			if i, err := x.Get(n); i.Size != 0 || err != api.OK {
				t.Fatalf("Get = %v, %d", i, err)
			}
			check(t, x, m, call{op: "List", dir: n})
			for _, e := range some(22) {
				check(t, x, m, call{op: "Add", dir: n, s: e.Name, inode: e.Inode, stamp: 50})
			}
			holds(t, "all added again", x, m)
		}
	}
}

func TestSwap(t *testing.T) {
	each(t, func(x *inodes.Inodes, m model, n int) {
		for _, e := range m[n].entries {
			for _, i := range []int{1, e.Inode, n, api.MaxInodes} {
				apart(t, x, m, call{op: "Swap", dir: n, s: e.Name, inode: i, stamp: 9})
			}
			fails(t, x, m, api.ErrMissing, call{op: "Swap", dir: n, s: e.Name[:5], inode: e.Inode, stamp: 9})
		}
		fails(t, x, m, api.ErrMissing, call{op: "Swap", dir: n, s: "a", inode: 2, stamp: 9}, call{op: "Swap", dir: n, s: long(), inode: 2, stamp: 9})
		for _, s := range noNames {
			fails(t, x, m, api.ErrName, call{op: "Swap", dir: n, s: s, inode: 2, stamp: 9})
		}
		for _, i := range noNumbers {
			fails(t, x, m, api.ErrArg, call{op: "Swap", dir: n, s: "n00000", inode: i, stamp: 9}, call{op: "Swap", dir: n, s: "", inode: i, stamp: 9}, call{op: "Swap", dir: n, s: "a", inode: i, stamp: 9})
		}
	})
}

// The stamps are laid as they are handed in, the least and the greatest, too: of a Swap that changes nothing, and of the last Remove.
func TestStamps(t *testing.T) {
	for _, stamp := range []uint64{0, 1, 1 << 63, math.MaxUint64} {
		s := made(t, 64, 8)
		x, m := s.empty(), model{}
		n := putDir(t, x, m, []api.Link{{Inode: 2, Name: "a"}})
		for range 2 {
			apart(t, x, m, call{op: "Add", dir: n, s: "b", inode: 2, stamp: stamp})
			apart(t, x, m, call{op: "Swap", dir: n, s: "a", inode: 3, stamp: stamp})
			apart(t, x, m, call{op: "Swap", dir: n, s: "a", inode: 2, stamp: stamp})
			apart(t, x, m, call{op: "Remove", dir: n, s: "a", stamp: stamp})
			x, _ = s.commit(x)
		}
	}
}

// What calls tell that change nothing is the same however often it is asked, and what a clone does the other one does not.
func TestClones(t *testing.T) {
	x, m := made(t, 16, 8).empty(), model{}
	n := putDir(t, x, m, some(11))
	for _, op := range ops {
		for _, s := range []string{m[n].entries[2].Name, "new"} {
			y, z := x.Clone(), x.Clone()
			for i := range 3 {
				c := call{op: op, dir: n, s: s, inode: 5, n: i, stamp: 9}
				if a, b := c.do(y), c.do(z); a != b {
					t.Errorf("%s = %s and %s", c.brief(), a.brief(), b.brief())
				}
			}
			holds(t, "the one that was cloned", x, maps.Clone(m))
		}
	}
}

// How much is new behind a call: the leaf that changed, the nodes above it and the table's leaf; of Remove the last leaf, too, if it stays.
func TestWhatIsNew(t *testing.T) {
	s := made(t, 256, 8)
	x, m := s.empty(), model{}
	n := putDir(t, x, m, some(21))
	x, _ = s.commit(x)
	l := slices.Clone(m[n].entries)
	for _, c := range []struct {
		call
		want int
	}{
		{call{op: "Add", s: "a", inode: 2, stamp: 1}, 4},
		{call{op: "Swap", s: l[0].Name, inode: 77, stamp: 1}, 4},
		{call{op: "Swap", s: l[0].Name, inode: l[0].Inode, stamp: 1}, 0},
		{call{op: "Swap", s: l[0].Name, inode: l[0].Inode, stamp: 2}, 1},
		// The last entry is alone in the leaf 5, beneath the second of two nodes.
		{call{op: "Remove", s: l[20].Name, stamp: 1}, 3},
		{call{op: "Remove", s: l[0].Name, stamp: 1}, 5},
		{call{op: "Remove", s: l[16].Name, stamp: 1}, 4},
	} {
		y := x.Clone()
		c.dir = n
		if got := c.do(y); got.err != api.OK {
			t.Errorf("%s = %s", c.brief(), got.brief())
		}
		isNew(t, c.brief(), y, c.want)
	}
}

package dir_test

import (
	"fmt"
	"math"
	"strings"
	"testing"

	"signet/api"
	"signet/inodes"
)

// sizes is how many entries are there: of each part of a leaf, of trees of several heights.
var sizes = []int{0, 1, 2, 3, 4, 5, 6, 7, 8, 9, 15, 16, 17, 20, 21, 64, 65}

// each hands on directories of all these sizes, as they were made, and committed.
func each(t *testing.T, do func(x *inodes.Inodes, m model, n int)) {
	t.Helper()
	for _, many := range sizes {
		s := made(t, 128, 8)
		x, m := s.empty(), model{}
		putFile(t, x, m, "abcd")
		n := putDir(t, x, m, some(many))
		putDir(t, x, m, some(9))
		do(x, m, n)
		x, _ = s.commit(x)
		do(x, m, n)
	}
}

// 17.2

func TestFind(t *testing.T) {
	each(t, func(x *inodes.Inodes, m model, n int) {
		for _, e := range m[n].entries {
			check(t, x, m, call{op: "Find", dir: n, s: e.Name})
			fails(t, x, m, api.ErrMissing, call{op: "Find", dir: n, s: e.Name[:5]}, call{op: "Find", dir: n, s: e.Name + "0"}, call{op: "Find", dir: n, s: strings.ToUpper(e.Name)})
		}
		fails(t, x, m, api.ErrMissing, call{op: "Find", dir: n, s: "a"}, call{op: "Find", dir: n, s: long()}, call{op: "Find", dir: n, s: "..."}, call{op: "Find", dir: n, s: "*"}, call{op: "Find", dir: n, s: "n?????"})
		for _, s := range noNames {
			fails(t, x, m, api.ErrName, call{op: "Find", dir: n, s: s})
		}
	})
}

// Names that may be, however odd, and inodes at both ends.
func TestFindOddNames(t *testing.T) {
	x, m := made(t, 16, 8).empty(), model{}
	var l []api.Link
	for i, s := range []string{long(), long()[:55], long()[:55] + "y", "...", ".a", "a.", " ", "\n", "\x01", "\xff", "é", "*", "?", "\\", "A", "a", "aa"} {
		l = append(l, api.Link{Inode: []int{1, api.MaxInodes, 255, 256, 257}[i%5], Name: s})
	}
	n := putDir(t, x, m, nil)
	for _, e := range l {
		check(t, x, m, call{op: "Add", dir: n, s: e.Name, inode: e.Inode, stamp: 2})
	}
	for i, e := range l {
		if got := (call{op: "Find", dir: n, s: e.Name}).do(x); got != (answer{inode: e.Inode, place: i}) {
			t.Errorf("Find(%q) = %s; want %d, %d", e.Name, got.brief(), e.Inode, i)
		}
	}
	check(t, x, m, call{op: "List", dir: n})
	holds(t, "odd names", x, m)
}

func TestEntry(t *testing.T) {
	each(t, func(x *inodes.Inodes, m model, n int) {
		many := len(m[n].entries)
		for place := range many {
			check(t, x, m, call{op: "Entry", dir: n, n: place})
		}
		for _, place := range []int{-1, many, many + 1, many + 3, many + 4, api.MaxEntries, math.MinInt, math.MaxInt} {
			fails(t, x, m, api.ErrPlace, call{op: "Entry", dir: n, n: place})
		}
	})
}

func TestCountAndList(t *testing.T) {
	each(t, func(x *inodes.Inodes, m model, n int) {
		check(t, x, m, call{op: "Count", dir: n})
		check(t, x, m, call{op: "List", dir: n})
		holds(t, "behind Count and List", x, m)
	})
}

func TestNames(t *testing.T) {
	each(t, func(x *inodes.Inodes, m model, n int) {
		for i := range 26 {
			check(t, x, m, call{op: "Names", dir: n, inode: i})
		}
		for _, i := range append([]int{api.MaxInodes}, noNumbers...) {
			if got := (call{op: "Names", dir: n, inode: i}).do(x); got != (answer{}) {
				t.Errorf("Names of %d = %s; want none", i, got.brief())
			}
		}
		holds(t, "behind Names", x, m)
	})
	x, m := made(t, 16, 8).empty(), model{}
	n := putDir(t, x, m, []api.Link{{Inode: 7, Name: "c"}, {Inode: api.MaxInodes, Name: "d"}, {Inode: 7, Name: "ab"}, {Inode: 1, Name: "z"}, {Inode: 7, Name: "a"}})
	for i, want := range map[int]string{7: `"a" "ab" "c" `, api.MaxInodes: `"d" `, 1: `"z" `, 2: ""} {
		if got := (call{op: "Names", dir: n, inode: i}).do(x); got != (answer{names: want}) {
			t.Errorf("Names of %d = %s; want %s", i, got.brief(), want)
		}
	}
}

// As many entries as there may be.
func TestFullDirectory(t *testing.T) {
	s := made(t, 8192, 64)
	x, m := s.empty(), model{}
	n := putDir(t, x, m, some(api.MaxEntries))
	for range 2 {
		for _, op := range []string{"Count", "List"} {
			check(t, x, m, call{op: op, dir: n})
		}
		for _, place := range []int{0, 1, 8191, api.MaxEntries - 2, api.MaxEntries - 1} {
			check(t, x, m, call{op: "Entry", dir: n, n: place})
			check(t, x, m, call{op: "Find", dir: n, s: m[n].entries[place].Name})
			check(t, x, m, call{op: "Names", dir: n, inode: m[n].entries[place].Inode})
		}
		fails(t, x, m, api.ErrPlace, call{op: "Entry", dir: n, n: api.MaxEntries}, call{op: "Entry", dir: n, n: math.MaxInt}, call{op: "Entry", dir: n, n: -1})
		for _, many := range []int{0, 1, api.MaxEntries - 1, api.MaxEntries, api.MaxEntries + 1, math.MaxInt} {
			check(t, x, m, call{op: "Page", dir: n, n: many})
			check(t, x, m, call{op: "Page", dir: n, s: "n08000", n: many})
		}
		check(t, x, m, call{op: "Begins", dir: n, s: "n12"})
		check(t, x, m, call{op: "Matches", dir: n, s: "*99"})
		x, _ = s.commit(x)
	}
}

// What was told is memory of its own: whatever is done to it, later answers are the same, and so are those that were told.
func TestAnswersAreNewMemory(t *testing.T) {
	x, m := made(t, 16, 8).empty(), model{}
	n := putDir(t, x, m, some(11))
	lists := []call{{op: "List", dir: n}, {op: "Names", dir: n, inode: 3}, {op: "Page", dir: n, n: 4}, {op: "Page", dir: n, n: 99}, {op: "Begins", dir: n, s: "n"}, {op: "Matches", dir: n, s: "n*"}}
	var other []string
	for _, c := range lists {
		other = append(other, fmt.Sprint(c.do(x)))
	}
	for range 2 {
		spoil(x, n)
		for i, c := range lists {
			check(t, x, m, c)
			if got := fmt.Sprint(c.do(x)); got != other[i] {
				t.Errorf("%s = %s; it was %s", c.brief(), got, other[i])
			}
		}
		holds(t, "behind answers that were written over", x, m)
	}
}

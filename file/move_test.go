package file_test

import (
	"math"
	"slices"
	"strings"
	"testing"
	"time"

	"signet/api"
	"signet/file"
	"signet/inodes"
)

// 16.6

func TestInsertAtAllEdges(t *testing.T) {
	each(t, func(x *inodes.Inodes, m model, n, size int) {
		for _, s := range texts() {
			for _, at := range around(size) {
				apart(t, x, m, call{op: "Insert", n: n, at: at, s: s, stamp: 9})
			}
		}
	})
}

func TestInsertToTheGreatestSize(t *testing.T) {
	x, m := made(t, 16, 8).empty(), model{}
	n := put(t, x, m, api.KindFile, bytes(1000, 1))
	s := bytes(api.MaxFile-1000, 2)
	for _, at := range []int{0, 5, 256, 999, 1000} {
		fails(t, x, m, api.ErrBig, call{op: "Insert", n: n, at: at, s: s + "a", stamp: 9})
		apart(t, x, m, call{op: "Insert", n: n, at: at, s: s, stamp: 9})
	}
	check(t, x, m, call{op: "Truncate", n: n, many: api.MaxFile - 1, stamp: 2})
	fails(t, x, m, api.ErrBig, call{op: "Insert", n: n, at: 0, s: "ab", stamp: 9})
	apart(t, x, m, call{op: "Insert", n: n, at: 0, s: "a", stamp: 9})
	apart(t, x, m, call{op: "Insert", n: n, at: api.MaxFile - 1, s: "a", stamp: 9})
}

func TestRemoveAtAllEdges(t *testing.T) {
	each(t, func(x *inodes.Inodes, m model, n, size int) {
		for _, at := range around(size) {
			for _, many := range around(size) {
				apart(t, x, m, call{op: "Remove", n: n, at: at, many: many, stamp: 9})
			}
		}
	})
}

func TestRemoveOfAll(t *testing.T) {
	x, m := made(t, 16, 8).empty(), model{}
	n := put(t, x, m, api.KindFile, bytes(api.MaxFile, 1))
	check(t, x, m, call{op: "Remove", n: n, at: 1, many: 1, stamp: 2})
	holds(t, "one byte less", x, m)
	check(t, x, m, call{op: "Remove", n: n, at: 300, many: math.MaxInt, stamp: 2})
	holds(t, "all but 300 less", x, m)
	check(t, x, m, call{op: "Truncate", n: n, many: 900, stamp: 3})
	holds(t, "longer again, with zeros", x, m)
	many, err := file.Remove(x, n, 0, 900, 4)
	is(t, "Remove of all", many, err, 900)
	many, err = file.Remove(x, n, 0, 900, 5)
	is(t, "Remove of none", many, err, 0)
	if i, err := x.Get(n); i.Size != 0 || i.Stamp != 4 || err != api.OK {
		t.Errorf("Get = %v, %d", i, err)
	}
}

// 16.7

// Ranges of one file that overlap both ways, and of two.
func TestCopyAtAllEdges(t *testing.T) {
	const size = 600
	s := made(t, 64, 8)
	x, m := s.empty(), model{}
	a := put(t, x, m, api.KindFile, bytes(size, 1))
	b := put(t, x, m, api.KindFile, bytes(300, 2))
	places := []int{-1, 0, 1, 100, 255, 256, 257, 300, 512, 599, 600, 601, 900, api.MaxFile - 600, api.MaxFile, api.MaxFile + 1, math.MaxInt}
	for _, at := range []int{-1, 0, 1, 100, 256, 300, 599, 600, 601, math.MaxInt} {
		for _, many := range []int{-1, 0, 1, 99, 256, 257, 500, 600, math.MaxInt} {
			for _, place := range places {
				for _, to := range []int{a, b} {
					c := call{op: "Copy", n: a, at: at, many: many, to: to, place: place, stamp: 9}
					if place > 1000 && place <= api.MaxFile && many > 1 {
						continue // files that are as long as they may be are asked for below
					}
					apart(t, x, m, c)
				}
			}
		}
	}
}

func TestCopyToTheGreatestSize(t *testing.T) {
	x, m := made(t, 16, 8).empty(), model{}
	a := put(t, x, m, api.KindFile, bytes(600, 1))
	b := put(t, x, m, api.KindFile, "")
	for _, to := range []int{a, b} {
		fails(t, x, m, api.ErrBig,
			call{op: "Copy", n: a, many: 600, to: to, place: api.MaxFile - 599, stamp: 9},
			call{op: "Copy", n: a, at: 300, many: math.MaxInt, to: to, place: api.MaxFile - 299, stamp: 9},
			call{op: "Copy", n: a, at: 600, many: 1, to: to, place: api.MaxFile + 1, stamp: 9},
			call{op: "Copy", n: a, many: 0, to: to, place: math.MaxInt, stamp: 9},
			call{op: "Copy", n: b, many: 5, to: to, place: math.MaxInt, stamp: 9})
		apart(t, x, m, call{op: "Copy", n: a, many: 600, to: to, place: api.MaxFile - 600, stamp: 9})
		apart(t, x, m, call{op: "Copy", n: a, at: 300, many: math.MaxInt, to: to, place: api.MaxFile - 300, stamp: 9})
		// Of nothing nothing is changed.
		apart(t, x, m, call{op: "Copy", n: a, at: 600, many: 1, to: to, place: api.MaxFile, stamp: 9})
		apart(t, x, m, call{op: "Copy", n: b, many: 1, to: to, place: 5, stamp: 9})
	}
}

// Only the file that is copied into is changed.
func TestCopyLeavesWhatItCopies(t *testing.T) {
	x, m := made(t, 16, 8).empty(), model{}
	a := put(t, x, m, api.KindFile, "abcdef")
	b := put(t, x, m, api.KindFile, "123")
	many, err := file.Copy(x, a, 2, 3, b, 5, 9)
	is(t, "Copy", many, err, 3)
	reads(t, x, a, 0, 99, "abcdef")
	reads(t, x, b, 0, 99, "123\x00\x00cde")
	for n, stamp := range map[int]uint64{a: 1, b: 9} {
		if i, err := x.Get(n); i.Stamp != stamp || err != api.OK {
			t.Errorf("Get(%d) = %v, %d; want the stamp %d", n, i, err, stamp)
		}
	}
}

func TestFindAtAllEdges(t *testing.T) {
	each(t, func(x *inodes.Inodes, m model, n, size int) {
		whole := m[n].bytes
		l := append(texts(), whole, whole+"a", "a"+whole)
		for _, cut := range [][2]int{{0, 1}, {0, 300}, {1, 256}, {200, 300}, {250, 520}, {255, 257}, {256, 257}, {256, 512}, {0, size - 1}, {1, size}, {size - 1, size}, {size - 257, size}} {
			if 0 <= cut[0] && cut[0] <= cut[1] && cut[1] <= size {
				l = append(l, whole[cut[0]:cut[1]], whole[cut[0]:cut[1]]+"\x00")
			}
		}
		for _, s := range l {
			for _, at := range around(size) {
				check(t, x, m, call{op: "Find", n: n, at: at, s: s})
			}
		}
		holds(t, "behind Find", x, m)
	})
}

func TestFindByHand(t *testing.T) {
	x, m := made(t, 16, 8).empty(), model{}
	n := put(t, x, m, api.KindFile, zeros(250)+"abcabcabdabcabcabd"+zeros(40))
	for _, c := range []struct {
		at   int
		s    string
		want int
	}{
		{0, "abcabcabd", 250}, {250, "abcabcabd", 250}, {251, "abcabcabd", 259}, {259, "abcabcabd", 259}, {260, "abcabcabd", -1},
		{0, "abd", 256}, {257, "abd", 265}, {0, "bdab", 257}, {0, "d" + zeros(40), 267}, {0, "d" + zeros(41), -1},
		{0, zeros(250), 0}, {1, zeros(250), -1}, {1, zeros(249), 1}, {2, zeros(249), -1}, {0, zeros(309), -1},
		{0, "", 0}, {7, "", 7}, {307, "", 307}, {308, "", 308}, {309, "", -1}, {math.MaxInt, "", -1},
		{307, "\x00", 307}, {308, "\x00", -1}, {309, "\x00", -1}, {math.MaxInt, "\x00", -1}, {0, "x", -1},
	} {
		place, err := file.Find(x, n, c.at, c.s)
		is(t, "Find", place, err, c.want)
		check(t, x, m, call{op: "Find", n: n, at: c.at, s: c.s})
	}
	fails(t, x, m, api.ErrArg, call{op: "Find", n: n, at: -1}, call{op: "Find", n: n, at: -1, s: "a"}, call{op: "Find", n: n, at: math.MinInt, s: "a"})
	empty := put(t, x, m, api.KindFile, "")
	for at, want := range map[int]int{0: 0, 1: -1, math.MaxInt: -1} {
		place, err := file.Find(x, empty, at, "")
		is(t, "Find of nothing in nothing", place, err, want)
		place, err = file.Find(x, empty, at, "a")
		is(t, "Find in nothing", place, err, -1)
	}
}

// A text that nearly stands at each place takes no longer than another one.
func TestFindOfWhatNearlyStandsEverywhere(t *testing.T) {
	x, m := made(t, 16, 8).empty(), model{}
	n := put(t, x, m, api.KindFile, strings.Repeat("a", api.MaxFile))
	half := strings.Repeat("a", api.MaxFile/2)
	begin := time.Now()
	for _, c := range []struct {
		s    string
		want int
	}{
		{half + "b", -1}, {half, 0}, {"b" + half, -1}, {half[1:] + "b" + half[1:], -1}, {half + half, 0}, {half + half + "a", -1},
	} {
		place, err := file.Find(x, n, 0, c.s)
		is(t, "Find", place, err, c.want)
	}
	if took := time.Since(begin); took > 20*time.Second {
		t.Errorf("it took %v", took)
	}
}

func TestHoles(t *testing.T) {
	each(t, func(x *inodes.Inodes, m model, n, size int) {
		check(t, x, m, call{op: "Holes", n: n})
		for first := 0; first < size; first += 256 {
			for _, many := range []int{255, 256, 257, 512} {
				y, e := x.Clone(), model{n: m[n], 1: m[1]}
				check(t, y, e, call{op: "Zero", n: n, at: first, many: many, stamp: 2})
				check(t, y, e, call{op: "Holes", n: n})
				holds(t, "behind Holes", y, e)
			}
		}
	})
	full := bytes(256, 1)
	run := func(from, to int) api.Run { return api.Run{From: from, To: to} }
	for _, c := range []struct {
		s    string
		want []api.Run
	}{
		{"", nil},
		{"a", nil},
		{"\x00", []api.Run{run(0, 0)}},
		{zeros(256), []api.Run{run(0, 0)}},
		{zeros(257), []api.Run{run(0, 1)}},
		{zeros(255) + "a", nil},
		{zeros(256) + "a", []api.Run{run(0, 0)}},
		{full + full, nil},
		{full + full + "\x00", []api.Run{run(2, 2)}},
		{full + full + zeros(99) + "a", nil},
		{zeros(512) + full + zeros(513), []api.Run{run(0, 1), run(3, 5)}},
		{full + zeros(256) + full + zeros(512) + full, []api.Run{run(1, 1), run(3, 4)}},
		{zeros(api.MaxFile), []api.Run{run(0, 4095)}},
		{zeros(api.MaxFile-1) + "a", []api.Run{run(0, 4094)}},
		{"a" + zeros(api.MaxFile-1), []api.Run{run(1, 4095)}},
	} {
		x, m := made(t, 16, 8).empty(), model{}
		n := put(t, x, m, api.KindFile, c.s)
		for range 2 {
			l, err := file.Holes(x, n)
			if !slices.Equal(l, c.want) || err != api.OK {
				t.Errorf("Holes of %d bytes = %v, %d; want %v", len(c.s), l, err, c.want)
			}
			// What is handed out is not what is kept.
			for i := range l[:cap(l)] {
				l[:cap(l)][i] = run(7, 7)
			}
		}
	}
}

package file_test

import (
	"math"
	"slices"
	"testing"

	"signet/api"
	"signet/inodes"
)

// sizes is sizes at the edges of leaves.
var sizes = []int{0, 1, 4, 255, 256, 257, 511, 512, 513, 600, 1024, 1300}

// around is the places and numbers at the edges of leaves, of a size, and of all.
func around(size int) []int {
	l := []int{math.MinInt, -1, 0, 1, 255, 256, 257, 512, size - 257, size - 256, size - 255, size - 1, size, size + 1, size + 256, math.MaxInt - 1, math.MaxInt}
	slices.Sort(l)
	return slices.Compact(l)
}

// texts is texts that fill leaves in part, as a whole, and beyond.
func texts() []string {
	var l []string
	for i, many := range []int{0, 1, 2, 255, 256, 257, 512, 700} {
		l = append(l, bytes(many, 100+i))
	}
	return l
}

// each hands over a file of each size, as it is in memory alone, and as it is when it is committed.
func each(t *testing.T, do func(x *inodes.Inodes, m model, n, size int)) {
	t.Helper()
	for _, size := range sizes {
		s := made(t, 64, 8)
		x, m := s.empty(), model{}
		put(t, x, m, api.KindFile, bytes(300, 7))
		n := put(t, x, m, api.KindFile, bytes(size, 1))
		do(x, m, n, size)
		x, _ = s.commit(x)
		do(x, m, n, size)
	}
}

// 16.2

func TestReadAtAllEdges(t *testing.T) {
	each(t, func(x *inodes.Inodes, m model, n, size int) {
		for _, at := range around(size) {
			for _, many := range around(size) {
				check(t, x, m, call{op: "Read", n: n, at: at, many: many})
			}
		}
		check(t, x, m, call{op: "Size", n: n})
		holds(t, "behind Read", x, m)
	})
}

func TestReadAtTheEnd(t *testing.T) {
	x, m := made(t, 16, 8).empty(), model{}
	n := put(t, x, m, api.KindFile, bytes(300, 1))
	whole := bytes(300, 1)
	reads(t, x, n, 0, 300, whole)
	reads(t, x, n, 0, 299, whole[:299])
	reads(t, x, n, 0, 301, whole)
	reads(t, x, n, 255, 2, whole[255:257])
	reads(t, x, n, 256, 99, whole[256:])
	reads(t, x, n, 299, 1, whole[299:])
	reads(t, x, n, 299, math.MaxInt, whole[299:])
	reads(t, x, n, 300, 1, "")
	reads(t, x, n, 301, 1, "")
	reads(t, x, n, 0, 0, "")
	reads(t, x, n, 0, math.MaxInt, whole)
	reads(t, x, n, math.MaxInt, 1, "")
	reads(t, x, n, math.MaxInt, math.MaxInt, "")
	fails(t, x, m, api.ErrArg, call{op: "Read", n: n, at: -1}, call{op: "Read", n: n, many: -1}, call{op: "Read", n: n, at: 300, many: -1}, call{op: "Read", n: n, at: -1, many: math.MaxInt})
}

func TestSame(t *testing.T) {
	s := made(t, 256, 8)
	x, m := s.empty(), model{}
	for _, size := range sizes {
		one := bytes(size, 1)
		put(t, x, m, api.KindFile, one)
		put(t, x, m, api.KindFile, one)
		if size > 0 {
			put(t, x, m, api.KindFile, one[:size-1]+"\x00")
			put(t, x, m, api.KindFile, "\x00"+one[1:])
		}
	}
	put(t, x, m, api.KindFile, zeros(512))
	put(t, x, m, api.KindFile, zeros(513))
	for range 2 {
		for a := range m {
			for b := range m {
				check(t, x, m, call{op: "Same", n: a, to: b})
			}
		}
		holds(t, "behind Same", x, m)
		x, _ = s.commit(x)
	}
}

// 16.3

func TestWriteAtAllEdges(t *testing.T) {
	each(t, func(x *inodes.Inodes, m model, n, size int) {
		for _, s := range texts() {
			for _, at := range append(around(size), api.MaxFile+1, api.MaxFile-len(s)+1) {
				apart(t, x, m, call{op: "Write", n: n, at: at, s: s, stamp: 9})
			}
			apart(t, x, m, call{op: "Append", n: n, s: s, stamp: 9})
		}
	})
}

// Bytes that end where no file may be longer.
func TestWriteToTheGreatestSize(t *testing.T) {
	for _, s := range texts() {
		x, m := made(t, 16, 8).empty(), model{}
		n := put(t, x, m, api.KindFile, bytes(300, 1))
		fails(t, x, m, api.ErrBig,
			call{op: "Write", n: n, at: api.MaxFile - len(s) + 1, s: s, stamp: 9},
			call{op: "Write", n: n, at: math.MaxInt, s: s, stamp: 9},
			call{op: "Write", n: n, at: math.MaxInt - len(s), s: s, stamp: 9})
		check(t, x, m, call{op: "Write", n: n, at: api.MaxFile - len(s), s: s, stamp: 9})
		holds(t, "written to the greatest size", x, m)
		if s == "" {
			continue
		}
		check(t, x, m, call{op: "Size", n: n})
		fails(t, x, m, api.ErrBig, call{op: "Append", n: n, s: "a", stamp: 10}, call{op: "Append", n: n, s: s, stamp: 10}, call{op: "Insert", n: n, at: 5, s: "a", stamp: 10})
		check(t, x, m, call{op: "Append", n: n, stamp: 10})
		check(t, x, m, call{op: "Insert", n: n, at: api.MaxFile, stamp: 10})
		holds(t, "full, and nothing laid behind", x, m)
		check(t, x, m, call{op: "Write", n: n, at: api.MaxFile - 1, s: "z", stamp: 11})
		check(t, x, m, call{op: "Read", n: n, at: api.MaxFile - 300, many: 999})
		check(t, x, m, call{op: "Read", n: n, many: api.MaxFile + 1})
		holds(t, "full, and its last byte written over", x, m)
	}
}

// As many bytes at once as a file may have, and one more.
func TestWriteAsMuchAsThereMayBe(t *testing.T) {
	all := bytes(api.MaxFile, 3)
	for _, op := range []string{"Write", "Append", "Insert"} {
		x, m := made(t, 16, 8).empty(), model{}
		n := put(t, x, m, api.KindFile, "")
		fails(t, x, m, api.ErrBig, call{op: op, n: n, s: all + "a", stamp: 8})
		check(t, x, m, call{op: op, n: n, s: all, stamp: 9})
		holds(t, op, x, m)
		check(t, x, m, call{op: "Read", n: n, many: math.MaxInt})
	}
}

// An empty text changes nothing, not the stamp either, and what is wrong is told all the same.
func TestEmptyTexts(t *testing.T) {
	each(t, func(x *inodes.Inodes, m model, n, size int) {
		before, _ := x.New()
		for _, at := range []int{0, 1, size, size + 1, api.MaxFile} {
			if got := (call{op: "Write", n: n, at: at, stamp: 9}).do(x); got != (answer{n: at}) {
				t.Errorf("Write of nothing at %d = %s", at, got.brief())
			}
		}
		if got := (call{op: "Append", n: n, stamp: 9}).do(x); got != (answer{n: size}) {
			t.Errorf("Append of nothing = %s; want %d", got.brief(), size)
		}
		for _, at := range []int{0, size} {
			if got := (call{op: "Insert", n: n, at: at, stamp: 9}).do(x); got != (answer{}) {
				t.Errorf("Insert of nothing at %d = %s", at, got.brief())
			}
		}
		fails(t, x, m, api.ErrArg,
			call{op: "Write", n: n, at: -1, stamp: 9},
			call{op: "Write", n: n, at: math.MinInt, stamp: 9},
			call{op: "Insert", n: n, at: -1, stamp: 9},
			call{op: "Insert", n: n, at: size + 1, stamp: 9},
			call{op: "Insert", n: n, at: math.MaxInt, stamp: 9})
		fails(t, x, m, api.ErrBig,
			call{op: "Write", n: n, at: api.MaxFile + 1, stamp: 9},
			call{op: "Write", n: n, at: math.MaxInt, stamp: 9})
		if behind, _ := x.New(); behind != before {
			t.Errorf("%d are new, and were %d", behind, before)
		}
	})
}

// 16.4

func TestTruncateAtAllEdges(t *testing.T) {
	each(t, func(x *inodes.Inodes, m model, n, size int) {
		for _, to := range append(around(size), api.MaxFile-1, api.MaxFile+1) {
			apart(t, x, m, call{op: "Truncate", n: n, many: to, stamp: 9})
		}
	})
	x, m := made(t, 16, 8).empty(), model{}
	n := put(t, x, m, api.KindFile, bytes(300, 1))
	check(t, x, m, call{op: "Truncate", n: n, many: api.MaxFile, stamp: 9})
	holds(t, "as long as it may be", x, m)
	fails(t, x, m, api.ErrBig, call{op: "Truncate", n: n, many: api.MaxFile + 1, stamp: 10}, call{op: "Truncate", n: n, many: math.MaxInt, stamp: 10})
	fails(t, x, m, api.ErrArg, call{op: "Truncate", n: n, many: -1, stamp: 10}, call{op: "Truncate", n: n, many: math.MinInt, stamp: 10})
	check(t, x, m, call{op: "Truncate", n: n, many: 0, stamp: 11})
	holds(t, "cut to nothing", x, m)
}

// Bytes that were cut away come again as zeros.
func TestCutAndLongerAgain(t *testing.T) {
	each(t, func(x *inodes.Inodes, m model, n, size int) {
		for _, to := range around(size) {
			if to < 0 || to > size {
				continue
			}
			y, e := x.Clone(), model{n: m[n], 1: m[1]}
			check(t, y, e, call{op: "Truncate", n: n, many: to, stamp: 2})
			check(t, y, e, call{op: "Truncate", n: n, many: size, stamp: 3})
			reads(t, y, n, 0, math.MaxInt, bytes(size, 1)[:to]+zeros(size-to))
			check(t, y, e, call{op: "Truncate", n: n, many: to, stamp: 4})
			check(t, y, e, call{op: "Write", n: n, at: size + 3, s: "a", stamp: 5})
			reads(t, y, n, 0, math.MaxInt, bytes(size, 1)[:to]+zeros(size+3-to)+"a")
			holds(t, "cut and longer again", y, e)
		}
	})
}

func TestZeroAtAllEdges(t *testing.T) {
	each(t, func(x *inodes.Inodes, m model, n, size int) {
		for _, at := range around(size) {
			for _, many := range around(size) {
				apart(t, x, m, call{op: "Zero", n: n, at: at, many: many, stamp: 9})
			}
		}
		apart(t, x, m, call{op: "Zero", n: n, at: api.MaxFile + 1, many: 5, stamp: 9})
	})
}

// A range with bytes changes the stamp, if they were zero, too; one without bytes does not.
func TestStampsOfZero(t *testing.T) {
	x, m := made(t, 16, 8).empty(), model{}
	n := put(t, x, m, api.KindFile, zeros(300))
	for i, c := range []struct {
		at, many int
		changes  bool
	}{
		{0, 0, false}, {0, 1, true}, {299, 1, true}, {299, 2, true}, {300, 1, false}, {301, 1, false}, {300, 0, false},
		{299, math.MaxInt, true}, {0, math.MaxInt, true}, {math.MaxInt, math.MaxInt, false}, {math.MaxInt, 0, false}, {api.MaxFile + 1, 1, false},
	} {
		before, _ := x.Get(n)
		stamp := uint64(100 + i)
		check(t, x, m, call{op: "Zero", n: n, at: c.at, many: c.many, stamp: stamp})
		want := before
		if c.changes {
			want.Stamp = stamp
		}
		if got, err := x.Get(n); got != want || err != api.OK {
			t.Errorf("behind Zero(%d, %d): %v, %d; want %v", c.at, c.many, got, err, want)
		}
	}
}

// The stamps are laid as they are handed in, the least and the greatest, too.
func TestStamps(t *testing.T) {
	for _, stamp := range []uint64{0, 1, 1 << 63, math.MaxUint64} {
		for _, c := range plain(2, 3) {
			x, m := made(t, 16, 8).empty(), model{}
			for range 3 {
				put(t, x, m, api.KindFile, "abcdef")
			}
			c.stamp = stamp
			apart(t, x, m, c)
		}
		x, m := made(t, 16, 8).empty(), model{}
		n := put(t, x, m, api.KindFile, "abcdef")
		apart(t, x, m, call{op: "Truncate", n: n, many: 6, stamp: stamp})
		apart(t, x, m, call{op: "Write", n: n, s: "abcdef", stamp: stamp})
	}
}

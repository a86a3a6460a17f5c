package inodes_test

import (
	"slices"
	"testing"

	"signet/api"
	"signet/cache"
	"signet/inodes"
)

// 15.7

// What was written is read by any cache over that disk.
func TestOpenOfWhatWasLaidOut(t *testing.T) {
	for _, room := range []int{0, 1, 100} {
		s := made(t, 512, 50)
		x, m := s.some()
		_, m = s.commits("some", x, m)
		c, err := cache.New(s.d, nil, room)
		s.ok(err)
		x, err = inodes.Open(c, api.Tree{Height: 1, Root: m.refs[at{0, 1, 0}]}, 6)
		s.ok(err)
		s.holds("by another cache", x, m)
		s.news("by another cache", x, 0)
	}
}

// A leaf that is written over again and again takes as many blocks as it lets go.
func TestWritingOverForEver(t *testing.T) {
	s := made(t, 4096, 8)
	x, m := s.committed()
	used := len(m.refs)
	for i := range 100 {
		s.ok(x.Set(3, 5, full(1000+i), uint64(i)), m.set(3, 5, full(1000+i), uint64(i)))
		out := s.lays("written over", x, m)
		if len(out.Writes) != 6 || len(out.Let) != 6 {
			t.Fatalf("%d writes, %d are let go", len(out.Writes), len(out.Let))
		}
		x, m = s.commits("written over", x, m)
		if len(m.refs) != used {
			t.Fatalf("%d blocks are used; were %d", len(m.refs), used)
		}
		s.news("committed", x, 0)
	}
	s.holds("behind all", x, m)
}

// What stays is not written again: its blocks are those that were.
func TestWhatStays(t *testing.T) {
	s := made(t, 512, 8)
	x, m := s.committed()
	old := m.refs
	s.ok(x.Set(3, 5, full(99), 9), m.set(3, 5, full(99), 9))
	s.ok(x.Resize(6, 256, 9), m.resize(6, 256, 9))
	s.ok(x.Drop(4), m.drop(4))
	_, let := m.counts()
	_, m = s.commits("changed", x, m)
	kept := 0
	for p, r := range old {
		if slices.Contains(let, r.At) {
			continue
		}
		kept++
		if m.refs[p] != r {
			t.Errorf("at %v: %v; was %v", p, m.refs[p], r)
		}
	}
	if kept != len(old)-len(let) || kept == 0 {
		t.Errorf("%d were kept of %d, %d are let go", kept, len(old), len(let))
	}
}

// A clone stands on the same cache, and reads by it.
func TestCloneReadsByTheSameCache(t *testing.T) {
	s := made(t, 512, 100)
	x, _ := s.committed()
	y := x.Clone()
	s.c.Clear()
	before := s.c.Counts()
	s.info(y, api.Info{Number: 2, Kind: file, Links: 1, Stamp: 4})
	if now := s.c.Counts(); now.Reads != before.Reads+2 {
		t.Errorf("%d reads; were %d", now.Reads, before.Reads)
	}
}

// Each change of the one is not the other's, whichever was made of which.
func TestClone(t *testing.T) {
	for name, do := range map[string]func(x *inodes.Inodes, m *model) (api.Errno, api.Errno){
		"Make": func(x *inodes.Inodes, m *model) (api.Errno, api.Errno) {
			_, err := x.Make(dir, 9)
			_, e := m.mk(dir, 9)
			return err, e
		},
		"Links": func(x *inodes.Inodes, m *model) (api.Errno, api.Errno) { return x.Links(3, 5, 9), m.links(3, 5, 9) },
		"Resize": func(x *inodes.Inodes, m *model) (api.Errno, api.Errno) {
			return x.Resize(3, 700, 9), m.resize(3, 700, 9)
		},
		"Drop": func(x *inodes.Inodes, m *model) (api.Errno, api.Errno) { return x.Drop(6), m.drop(6) },
		"Set": func(x *inodes.Inodes, m *model) (api.Errno, api.Errno) {
			return x.Set(3, 2, full(80), 9), m.set(3, 2, full(80), 9)
		},
		"Touch": func(x *inodes.Inodes, m *model) (api.Errno, api.Errno) { return x.Touch(5, 9), m.touch(5, 9) },
	} {
		for _, first := range []bool{false, true} {
			for _, counted := range []bool{false, true} {
				s := made(t, 512, 8)
				x, m := s.committed()
				s.ok(x.Set(3, 2, full(60), 8), m.set(3, 2, full(60), 8))
				if counted {
					x.New()
				}
				y, e := x.Clone(), m.clone()
				if first {
					x, y, m, e = y, x, e, m
				}
				err, want := do(y, e)
				s.ok(err, want)
				s.holds(name+" of the one", y, e)
				s.holds(name+" of the other", x, m)
				s.lays(name+" of the one", y, e)
				s.lays(name+" of the other", x, m)
			}
		}
	}
}

// A block that stands at two positions, which no table of this layer's own has, is let go once.
func TestLetOfABlockAtTwoPositions(t *testing.T) {
	s := made(t, 64, 8)
	leaf := s.lay(full(1))
	one := api.Inode{Kind: file, Links: 1, Size: 256, Tree: api.Tree{Root: leaf}}
	root := s.four(one, one, api.Inode{Kind: file, Links: 1})
	x := s.open(api.Tree{Root: root}, 3)
	s.ok(x.Drop(1), x.Drop(2))
	if out := s.out(x); !slices.Equal(out.Let, []uint32{leaf.At, root.At}) {
		t.Errorf("Let = %v; want %v", out.Let, []uint32{leaf.At, root.At})
	}
}

package fd_test

import (
	"slices"
	"testing"

	"signet/api"
	"signet/fd"
)

// 23.4

func TestUses(t *testing.T) {
	f := fd.New()
	for n, inode := range []int{3, 1, 3, 4096, 3, 1} {
		opens(t, f, inode, good[n], n)
	}
	uses := func(what string, want map[int]int) {
		t.Helper()
		for inode := -1; inode <= api.MaxInodes+1; inode++ {
			if n := f.Uses(inode); n != want[inode] {
				t.Errorf("%s: Uses(%d) = %d; want %d", what, inode, n, want[inode])
			}
		}
	}
	uses("opened", map[int]int{3: 3, 1: 2, 4096: 1})
	closes(t, f, 2)
	uses("one closed", map[int]int{3: 2, 1: 2, 4096: 1})
	if _, err := f.Dup(3); err != api.OK {
		t.Error(err)
	}
	uses("one twice", map[int]int{3: 2, 1: 2, 4096: 2})
	moves(t, f, 0, 3)
	uses("one moved", map[int]int{3: 2, 1: 2, 4096: 2})
	closes(t, f, 0, 1, 2, 3, 4, 5)
	uses("all closed", nil)
}

func TestLenAndAll(t *testing.T) {
	f := fd.New()
	is := func(want ...int) {
		t.Helper()
		if l := f.All(); !slices.Equal(l, want) || f.Len() != len(want) {
			t.Errorf("All = %v, Len = %d; want %v", l, f.Len(), want)
		}
	}
	is()
	opens(t, f, 9, 1, 0)
	is(0)
	opens(t, f, 9, 1, 1)
	opens(t, f, 2, 3, 2)
	opens(t, f, 1, 3, 3)
	is(0, 1, 2, 3)
	closes(t, f, 1)
	is(0, 2, 3)
	closes(t, f, 3, 0)
	is(2)
	opens(t, f, 4, 1, 0)
	is(0, 2)
	closes(t, f, 2, 0)
	is()
	f, _ = opened(t, 64)
	if l := f.All(); len(l) != 64 || l[0] != 0 || l[63] != 63 || !slices.IsSorted(l) {
		t.Errorf("All of a full one = %v", l)
	}
}

// What is handed out is the caller's own, spare room too.
func TestAllIsNewMemory(t *testing.T) {
	f, p := opened(t, 5)
	l, other := f.All(), f.All()
	l = l[:cap(l)]
	for i := range l {
		l[i] = 77
	}
	if !slices.Equal(other, []int{0, 1, 2, 3, 4}) {
		t.Errorf("an All shares memory with another one: %v", other)
	}
	holds(t, "whose All was written over", f, p)
}

// changes is all ways in which descriptors may change, each done to those that opened gives, of 5.
func changes() map[string]func(*fd.Fds) {
	return map[string]func(*fd.Fds){
		"Open":  func(f *fd.Fds) { f.Open(17, 3) },
		"Close": func(f *fd.Fds) { f.Close(2) },
		"Move":  func(f *fd.Fds) { f.Move(3, 99) },
		"Dup":   func(f *fd.Fds) { f.Dup(4) },
		"Seek":  func(f *fd.Fds) { f.Seek(1, 5, 2, 10) },
		"all of them": func(f *fd.Fds) {
			for _, n := range f.All() {
				f.Close(n)
			}
		},
	}
}

// behind is the plain form of what a change makes of those.
func behind(t *testing.T, what string) plain {
	t.Helper()
	_, p := opened(t, 5)
	switch what {
	case "Open":
		p[5] = api.Open{Inode: 17, Flags: 3}
	case "Close":
		delete(p, 2)
	case "Move":
		p[3] = api.Open{Inode: p[3].Inode, Flags: p[3].Flags, At: 99}
	case "Dup":
		p[5] = p[4]
	case "Seek":
		p[1] = api.Open{Inode: p[1].Inode, Flags: p[1].Flags, At: 15}
	default:
		p = plain{}
	}
	return p
}

func TestCloneIsTheSame(t *testing.T) {
	for _, many := range []int{0, 1, 5, 63, 64} {
		f, p := opened(t, many)
		if many == 64 {
			closes(t, f, 0, 40)
			delete(p, 0)
			delete(p, 40)
		}
		c := f.Clone()
		if c == f {
			t.Error("a Clone is what it was made of")
		}
		holds(t, "a Clone", c, p)
		holds(t, "what it was made of", f, p)
	}
}

// A Clone and what it was made of know nothing of one another, whichever is changed; nor do two Clones of one.
func TestCloneGoesItsOwnWay(t *testing.T) {
	for what, change := range changes() {
		f, p := opened(t, 5)
		c, d := f.Clone(), f.Clone()
		change(f)
		holds(t, what+": what was cloned", f, behind(t, what))
		holds(t, what+" of the other: a Clone", c, p)
		holds(t, what+" of the other: another Clone", d, p)
		f, p = opened(t, 5)
		c, d = f.Clone(), f.Clone()
		change(c)
		holds(t, what+": the Clone", c, behind(t, what))
		holds(t, what+" of the Clone: the other", f, p)
		holds(t, what+" of the Clone: another Clone", d, p)
		holds(t, what+": a Clone of the Clone", c.Clone(), behind(t, what))
	}
}

// Two new ones know nothing of one another.
func TestNewGoesItsOwnWay(t *testing.T) {
	a, p := opened(t, 5)
	b := fd.New()
	holds(t, "a new one beside another", b, plain{})
	opens(t, b, 1, 1, 0)
	holds(t, "the first", a, p)
	for what, change := range changes() {
		c, q := opened(t, 5)
		d, _ := opened(t, 5)
		change(d)
		holds(t, what+" of the other", c, q)
		holds(t, what, d, behind(t, what))
	}
	holds(t, "the second", b, plain{0: {Inode: 1, Flags: 1}})
}

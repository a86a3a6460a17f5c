package fd_test

import (
	"testing"

	"signet/api"
	"signet/fd"
)

// 23.2

func TestNew(t *testing.T) {
	f := fd.New()
	if f == nil {
		t.Fatal("New is nil")
	}
	holds(t, "new", f, plain{})
}

func TestOpen(t *testing.T) {
	for _, inode := range []int{1, 2, 4095, 4096} {
		f, p := fd.New(), plain{}
		for n, flags := range good {
			opens(t, f, inode, flags, n)
			p[n] = api.Open{Inode: inode, Flags: flags}
			holds(t, "behind Open", f, p)
		}
	}
}

func TestOpenOfFlagsThatMayNotBe(t *testing.T) {
	f, p := opened(t, 5)
	for _, flags := range allFlags() {
		if fd.Check(flags) == api.OK {
			continue
		}
		if n, err := f.Open(7, flags); n != 0 || err != api.ErrFlags {
			t.Errorf("Open(7, %d) = %d, %d; want ErrFlags", flags, n, err)
		}
		holds(t, "behind wrong flags", f, p)
	}
}

func TestOpenOfNoInode(t *testing.T) {
	f, p := opened(t, 5)
	for _, inode := range noInodes() {
		for _, flags := range []int{1, 2, 63} {
			if n, err := f.Open(inode, flags); n != 0 || err != api.ErrArg {
				t.Errorf("Open(%d, %d) = %d, %d; want ErrArg", inode, flags, n, err)
			}
			holds(t, "behind a wrong inode", f, p)
		}
	}
}

func TestOpenUntilThereIsNoNumber(t *testing.T) {
	f, p := fd.New(), plain{}
	for n := range 64 {
		opens(t, f, 9, 3, n)
		p[n] = api.Open{Inode: 9, Flags: 3}
	}
	holds(t, "full", f, p)
	if f.Uses(9) != 64 || f.Len() != 64 {
		t.Errorf("Uses = %d, Len = %d; want 64", f.Uses(9), f.Len())
	}
	for range 3 {
		if n, err := f.Open(9, 3); n != 0 || err != api.ErrFds {
			t.Errorf("Open of one more = %d, %d; want ErrFds", n, err)
		}
		holds(t, "behind one more", f, p)
	}
	// The last but one of them is 62, and there is room for one again.
	closes(t, f, 62)
	opens(t, f, 10, 1, 62)
	p[62] = api.Open{Inode: 10, Flags: 1}
	if n, err := f.Open(10, 1); n != 0 || err != api.ErrFds {
		t.Errorf("Open of one more = %d, %d; want ErrFds", n, err)
	}
	holds(t, "full again", f, p)
}

// Which of the errors of Open is told, where there are several.
func TestOpenTellsTheFirstError(t *testing.T) {
	full, _ := opened(t, 64)
	some, _ := opened(t, 3)
	for _, c := range []struct {
		f            *fd.Fds
		inode, flags int
		want         api.Errno
	}{
		{full, 0, 0, api.ErrFlags},
		{full, 1, 0, api.ErrFlags},
		{full, 4097, 9, api.ErrFlags},
		{full, 1, 64, api.ErrFlags},
		{some, -1, -1, api.ErrFlags},
		{some, 0, 17, api.ErrFlags},
		{full, 0, 1, api.ErrArg},
		{full, 4097, 63, api.ErrArg},
		{full, -1, 3, api.ErrArg},
		{full, 1, 1, api.ErrFds},
	} {
		if n, err := c.f.Open(c.inode, c.flags); n != 0 || err != c.want {
			t.Errorf("Open(%d, %d) of %d = %d, %d; want %d", c.inode, c.flags, c.f.Len(), n, err, c.want)
		}
	}
}

func TestOpenIsTheLeastNumber(t *testing.T) {
	f, p := opened(t, 10)
	closes(t, f, 7, 3, 5, 0)
	for _, n := range []int{0, 3, 5, 7, 10, 11} {
		opens(t, f, 1, 1, n)
		p[n] = api.Open{Inode: 1, Flags: 1}
	}
	holds(t, "opened again", f, p)
	// From a full one: the same.
	f, p = opened(t, 64)
	closes(t, f, 63, 31, 32)
	for _, n := range []int{31, 32, 63} {
		opens(t, f, 1, 1, n)
		p[n] = api.Open{Inode: 1, Flags: 1}
	}
	holds(t, "opened again", f, p)
}

// A number that is opened again knows nothing of what it was.
func TestOpenBeginsAtZero(t *testing.T) {
	f := fd.New()
	opens(t, f, 5, 63, 0)
	moves(t, f, 0, 77)
	closes(t, f, 0)
	opens(t, f, 6, 1, 0)
	holds(t, "opened again", f, plain{0: {Inode: 6, Flags: 1}})
}

func TestClose(t *testing.T) {
	f, p := opened(t, 64)
	for i := range 64 {
		n := i * 29 % 64
		closes(t, f, n)
		delete(p, n)
		holds(t, "behind Close", f, p)
		if err := f.Close(n); err != api.ErrFd {
			t.Errorf("Close(%d) again = %d; want ErrFd", n, err)
		}
		holds(t, "behind Close again", f, p)
	}
}

// notOpen asks what all calls answer of a number that is not open.
func notOpen(t *testing.T, f *fd.Fds, n int) {
	t.Helper()
	if o, err := f.Get(n); o != (api.Open{}) || err != api.ErrFd {
		t.Errorf("Get(%d) = %v, %d; want ErrFd", n, o, err)
	}
	if err := f.Close(n); err != api.ErrFd {
		t.Errorf("Close(%d) = %d; want ErrFd", n, err)
	}
	if at, err := f.Dup(n); at != 0 || err != api.ErrFd {
		t.Errorf("Dup(%d) = %d, %d; want ErrFd", n, at, err)
	}
	for _, at := range []int{0, 5, api.MaxFile, -1, api.MaxFile + 1} {
		if err := f.Move(n, at); err != api.ErrFd {
			t.Errorf("Move(%d, %d) = %d; want ErrFd", n, at, err)
		}
		for whence := -1; whence <= 3; whence++ {
			for _, size := range []int{-1, 0, 10, api.MaxFile + 1} {
				if to, err := f.Seek(n, at, whence, size); to != 0 || err != api.ErrFd {
					t.Errorf("Seek(%d, %d, %d, %d) = %d, %d; want ErrFd", n, at, whence, size, to, err)
				}
			}
		}
	}
}

// Numbers that are none, are closed again, and were not opened yet; the other errors that those calls have stand behind ErrFd.
func TestCallsOfNumbersThatAreNotOpen(t *testing.T) {
	for _, many := range []int{0, 1, 9, 63, 64} {
		f, p := opened(t, many)
		for _, n := range outside() {
			notOpen(t, f, n)
			holds(t, "behind numbers that are none", f, p)
		}
		for _, n := range []int{0, 4, 8, 63} {
			f.Close(n)
			delete(p, n)
			notOpen(t, f, n)
			holds(t, "behind one that is closed", f, p)
		}
		for n := many; n < api.MaxFds; n++ {
			notOpen(t, f, n)
		}
		holds(t, "behind those that were not opened", f, p)
	}
}

func TestDup(t *testing.T) {
	f, p := opened(t, 6)
	closes(t, f, 2, 4)
	delete(p, 2)
	delete(p, 4)
	for _, c := range []struct{ of, want int }{{5, 2}, {5, 4}, {2, 6}, {0, 7}} {
		if n, err := f.Dup(c.of); n != c.want || err != api.OK {
			t.Errorf("Dup(%d) = %d, %d; want %d", c.of, n, err, c.want)
		}
		p[c.want] = p[c.of]
		holds(t, "behind Dup", f, p)
	}
	if o, err := f.Get(6); o != (api.Open{Inode: 4061, Flags: good[5], At: 5000}) || err != api.OK {
		t.Errorf("the Dup of a Dup is %v, %d", o, err)
	}
}

// The place of each is its own, and so is whether it is open.
func TestDupGoesItsOwnWay(t *testing.T) {
	f := fd.New()
	opens(t, f, 8, 3, 0)
	moves(t, f, 0, 40)
	if n, err := f.Dup(0); n != 1 || err != api.OK {
		t.Fatalf("Dup(0) = %d, %d", n, err)
	}
	holds(t, "twice", f, plain{0: {Inode: 8, Flags: 3, At: 40}, 1: {Inode: 8, Flags: 3, At: 40}})
	moves(t, f, 0, 50)
	holds(t, "the first moved", f, plain{0: {Inode: 8, Flags: 3, At: 50}, 1: {Inode: 8, Flags: 3, At: 40}})
	if at, err := f.Seek(1, 3, 1, 0); at != 43 || err != api.OK {
		t.Errorf("Seek(1) = %d, %d; want 43", at, err)
	}
	holds(t, "the second sought", f, plain{0: {Inode: 8, Flags: 3, At: 50}, 1: {Inode: 8, Flags: 3, At: 43}})
	closes(t, f, 0)
	holds(t, "the first closed", f, plain{1: {Inode: 8, Flags: 3, At: 43}})
}

func TestDupUntilThereIsNoNumber(t *testing.T) {
	f, p := opened(t, 1)
	moves(t, f, 0, 12)
	p[0] = api.Open{Inode: 4096, Flags: 1, At: 12}
	for n := 1; n < 64; n++ {
		if got, err := f.Dup(n - 1); got != n || err != api.OK {
			t.Errorf("Dup(%d) = %d, %d; want %d", n-1, got, err, n)
		}
		p[n] = p[0]
	}
	for _, n := range []int{0, 30, 63} {
		if got, err := f.Dup(n); got != 0 || err != api.ErrFds {
			t.Errorf("Dup(%d) of a full one = %d, %d; want ErrFds", n, got, err)
		}
		holds(t, "behind one more", f, p)
	}
	// A number that is none is told ahead of there being too many.
	for _, n := range outside() {
		if got, err := f.Dup(n); got != 0 || err != api.ErrFd {
			t.Errorf("Dup(%d) of a full one = %d, %d; want ErrFd", n, got, err)
		}
	}
	holds(t, "behind no numbers", f, p)
	closes(t, f, 17)
	if got, err := f.Dup(63); got != 17 || err != api.OK {
		t.Errorf("Dup(63) = %d, %d; want 17", got, err)
	}
	holds(t, "behind a Dup", f, p)
}

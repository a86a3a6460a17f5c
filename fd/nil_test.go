package fd_test

import (
	"testing"

	"signet/api"
	"signet/fd"
)

// 23.4

func TestNoFds(t *testing.T) {
	var f *fd.Fds
	for _, inode := range append(noInodes(), 1, 2, 4096) {
		for _, flags := range allFlags() {
			_, want := plain{}.open(inode, flags)
			if want == api.OK {
				want = api.ErrFds
			}
			if n, err := f.Open(inode, flags); n != 0 || err != want {
				t.Errorf("Open(%d, %d) = %d, %d; want %d", inode, flags, n, err, want)
			}
		}
	}
	for _, n := range numbers() {
		notOpen(t, f, n)
	}
	for inode := -1; inode <= api.MaxInodes+1; inode++ {
		if n := f.Uses(inode); n != 0 {
			t.Errorf("Uses(%d) = %d", inode, n)
		}
	}
	if f.Len() != 0 || len(f.All()) != 0 {
		t.Errorf("Len = %d, All = %v", f.Len(), f.All())
	}
	if c := f.Clone(); c != nil {
		t.Errorf("Clone = %v; want nil", c)
	}
	holds(t, "none", f, plain{})
}

// Open of none, error by error: each behind the one that is told first.
func TestOpenOfNoFds(t *testing.T) {
	var f *fd.Fds
	for _, c := range []struct {
		inode, flags int
		want         api.Errno
	}{{1, 1, api.ErrFds}, {4096, 63, api.ErrFds}, {0, 1, api.ErrArg}, {4097, 3, api.ErrArg}, {1, 0, api.ErrFlags}, {0, 64, api.ErrFlags}} {
		if n, err := f.Open(c.inode, c.flags); n != 0 || err != c.want {
			t.Errorf("Open(%d, %d) = %d, %d; want %d", c.inode, c.flags, n, err, c.want)
		}
	}
}

// What no call gave is no descriptor.
func TestFdsThatNoCallGave(t *testing.T) {
	f := new(fd.Fds)
	holds(t, "that no call gave", f, plain{})
	opens(t, f, 2, 3, 0)
	holds(t, "behind Open", f, plain{0: {Inode: 2, Flags: 3}})
}

package fd_test

import (
	"testing"

	"signet/api"
	"signet/fd"
)

// The examples of chapter 23.

func TestExample1(t *testing.T) {
	for _, c := range []struct {
		flags int
		want  api.Errno
	}{{0, api.ErrFlags}, {9, api.ErrFlags}, {3, api.OK}} {
		if err := fd.Check(c.flags); err != c.want {
			t.Errorf("Check(%d) = %d; want %d", c.flags, err, c.want)
		}
	}
	f := fd.New()
	opens(t, f, 1, 1, 0)
	opens(t, f, 2, 3, 1)
	if err := f.Close(0); err != api.OK {
		t.Errorf("Close(0) = %d", err)
	}
	opens(t, f, 3, 1, 0)
	if at, err := f.Seek(1, -1, 0, 0); at != 0 || err != api.ErrSeek {
		t.Errorf("Seek to -1 = %d, %d; want ErrSeek", at, err)
	}
	if at, err := f.Seek(1, 5, 2, 10); at != 15 || err != api.OK {
		t.Errorf("Seek 5 behind 10 = %d, %d; want 15", at, err)
	}
}

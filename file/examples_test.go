package file_test

import (
	"slices"
	"testing"

	"signet/api"
	"signet/file"
	"signet/inodes"
)

// reads asks for the bytes of a range.
func reads(t *testing.T, x *inodes.Inodes, n, at, many int, want string) {
	t.Helper()
	if s, err := file.Read(x, n, at, many); s != want || err != api.OK {
		t.Errorf("Read(%d, %d, %d) = %.40q (%d bytes), %d; want %.40q (%d bytes)", n, at, many, s, len(s), err, want, len(want))
	}
}

// is asks for a number and OK.
func is(t *testing.T, what string, got int, err api.Errno, want int) {
	t.Helper()
	if got != want || err != api.OK {
		t.Errorf("%s = %d, %d; want %d", what, got, err, want)
	}
}

// fine asks for OK.
func fine(t *testing.T, what string, err api.Errno) {
	t.Helper()
	if err != api.OK {
		t.Errorf("%s = %d; want OK", what, err)
	}
}

func TestExampleWritten(t *testing.T) {
	x, m := made(t, 16, 8).empty(), model{}
	n := put(t, x, m, api.KindFile, "")
	end, err := file.Write(x, n, 300, "ab", 1)
	is(t, "Write", end, err, 302)
	reads(t, x, n, 298, 10, "\x00\x00ab")
	fine(t, "Truncate(301)", file.Truncate(x, n, 301, 1))
	fine(t, "Truncate(302)", file.Truncate(x, n, 302, 1))
	reads(t, x, n, 300, 9, "a\x00")
	if end, err := file.Write(x, n, api.MaxFile, "a", 2); end != 0 || err != api.ErrBig {
		t.Errorf("Write at MaxFile = %d, %d; want ErrBig", end, err)
	}
	end, err = file.Write(x, n, api.MaxFile, "", 2)
	is(t, "Write of nothing at MaxFile", end, err, api.MaxFile)
	if i, err := x.Get(n); i.Size != 302 || i.Stamp != 1 || err != api.OK {
		t.Errorf("the file is changed: %v, %d", i, err)
	}
	begin, err := file.Append(x, n, "c", 1)
	is(t, "Append", begin, err, 302)
	reads(t, x, n, 300, 9, "a\x00c")
}

func TestExampleMoved(t *testing.T) {
	x, m := made(t, 16, 8).empty(), model{}
	n := put(t, x, m, api.KindFile, "abcd")
	fine(t, "Insert", file.Insert(x, n, 2, "xy", 1))
	reads(t, x, n, 0, 9, "abxycd")
	many, err := file.Remove(x, n, 2, 2, 1)
	is(t, "Remove", many, err, 2)
	reads(t, x, n, 0, 9, "abcd")
	many, err = file.Copy(x, n, 1, 9, n, 4, 1)
	is(t, "Copy", many, err, 3)
	reads(t, x, n, 0, 9, "abcdbcd")
	place, err := file.Find(x, n, 2, "bcd")
	is(t, "Find", place, err, 4)

	n = put(t, x, m, api.KindFile, "")
	end, err := file.Write(x, n, 300, "a", 1)
	is(t, "Write", end, err, 301)
	fine(t, "Truncate", file.Truncate(x, n, 600, 1))
	if l, err := file.Holes(x, n); !slices.Equal(l, []api.Run{{From: 0, To: 0}, {From: 2, To: 2}}) || err != api.OK {
		t.Errorf("Holes = %v, %d", l, err)
	}
}

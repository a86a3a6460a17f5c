package file

import (
	"strings"

	"signet/api"
	"signet/inodes"
)

// Write lays bytes into a file, and tells where they end.
func Write(x *inodes.Inodes, n, at int, s string, stamp uint64) (int, api.Errno) {
	f, err := one(x, n)
	if err != api.OK {
		return 0, err
	}
	if at < 0 {
		return 0, api.ErrArg
	}
	if err := write(x, f, at, s, stamp); err != api.OK {
		return 0, err
	}
	return at + len(s), api.OK
}

// Append lays bytes behind the last one of a file, and tells where they begin.
func Append(x *inodes.Inodes, n int, s string, stamp uint64) (int, api.Errno) {
	f, err := one(x, n)
	if err != api.OK {
		return 0, err
	}
	if err := write(x, f, f.Size, s, stamp); err != api.OK {
		return 0, err
	}
	return f.Size, api.OK
}

// write lays bytes into a file at a place that is not below 0.
func write(x *inodes.Inodes, f api.Info, at int, s string, stamp uint64) api.Errno {
	if tooBig(at, len(s)) {
		return api.ErrBig
	}
	if s == "" {
		return api.OK
	}
	return lay(x, f, at, s, max(f.Size, at+len(s)), stamp)
}

// Truncate cuts a file, or fills it with zeros, to a size.
func Truncate(x *inodes.Inodes, n, size int, stamp uint64) api.Errno {
	if _, err := one(x, n); err != api.OK {
		return err
	}
	if size < 0 {
		return api.ErrArg
	}
	if size > api.MaxFile {
		return api.ErrBig
	}
	return x.Resize(n, size, stamp)
}

// Zero makes the bytes of a range zero that a file has.
func Zero(x *inodes.Inodes, n, at, many int, stamp uint64) api.Errno {
	f, err := one(x, n)
	if err != api.OK {
		return err
	}
	if at < 0 || many < 0 {
		return api.ErrArg
	}
	many = there(f, at, many)
	if many == 0 {
		return api.OK
	}
	return lay(x, f, at, strings.Repeat("\x00", many), f.Size, stamp)
}

// lay makes a file have a size, and the bytes of s from a place on. All that has to be read is read ahead of the first change, so that a call that fails has changed nothing.
func lay(x *inodes.Inodes, f api.Info, at int, s string, size int, stamp uint64) api.Errno {
	l, err := laid(x, f, at, s, size)
	if err != api.OK {
		return err
	}
	if size > f.Size {
		if err := x.Resize(f.Number, size, stamp); err != api.OK {
			return err
		}
	}
	for i, leaf := range l {
		if err := x.Set(f.Number, at/api.BlockBytes+i, leaf, stamp); err != api.OK {
			return err
		}
	}
	// Leaves that are set ahead of a cut are not read for it.
	if size < f.Size {
		return x.Resize(f.Number, size, stamp)
	}
	return api.OK
}

// laid is the leaves from that of a place on with the bytes of s laid over them. A leaf of which no other byte is left below the size need not be read.
func laid(x *inodes.Inodes, f api.Info, at int, s string, size int) ([]api.Block, api.Errno) {
	var l []api.Block
	end := at + len(s)
	for first := at - at%api.BlockBytes; first < end; first += api.BlockBytes {
		from, to := max(at, first), min(end, first+api.BlockBytes)
		var leaf api.Block
		if from > first || to < min(size, first+api.BlockBytes) {
			var err api.Errno
			if leaf, err = x.Leaf(f.Number, first/api.BlockBytes); err != api.OK {
				return nil, err
			}
		}
		copy(leaf[from-first:], s[from-at:to-at])
		l = append(l, leaf)
	}
	return l, api.OK
}

package file

import (
	"signet/api"
	"signet/inodes"
)

// Insert lays bytes between those of a file.
func Insert(x *inodes.Inodes, n, at int, s string, stamp uint64) api.Errno {
	f, err := one(x, n)
	if err != api.OK {
		return err
	}
	if at < 0 || at > f.Size {
		return api.ErrArg
	}
	if tooBig(f.Size, len(s)) {
		return api.ErrBig
	}
	if s == "" {
		return api.OK
	}
	behind, err := text(x, f, at, f.Size-at)
	if err != api.OK {
		return err
	}
	return lay(x, f, at, s+behind, f.Size+len(s), stamp)
}

// Remove takes the bytes of a range out of a file, and tells how many it had.
func Remove(x *inodes.Inodes, n, at, many int, stamp uint64) (int, api.Errno) {
	f, err := one(x, n)
	if err != api.OK {
		return 0, err
	}
	if at < 0 || many < 0 {
		return 0, api.ErrArg
	}
	many = there(f, at, many)
	if many == 0 {
		return 0, api.OK
	}
	behind, err := text(x, f, at+many, f.Size-at-many)
	if err != api.OK {
		return 0, err
	}
	if err := lay(x, f, at, behind, f.Size-many, stamp); err != api.OK {
		return 0, err
	}
	return many, api.OK
}

// Copy lays the bytes of a range that a file has into a file, and tells how many they are.
func Copy(x *inodes.Inodes, from, at, many, to, place int, stamp uint64) (int, api.Errno) {
	f, g, err := two(x, from, to)
	if err != api.OK {
		return 0, err
	}
	if at < 0 || many < 0 || place < 0 {
		return 0, api.ErrArg
	}
	many = there(f, at, many)
	// What is wrong is told ahead of what can't be read.
	if tooBig(place, many) {
		return 0, api.ErrBig
	}
	s, err := text(x, f, at, many)
	if err != api.OK {
		return 0, err
	}
	if err := write(x, g, place, s, stamp); err != api.OK {
		return 0, err
	}
	return many, api.OK
}

package dir

import (
	"strings"

	"signet/api"
	"signet/inodes"
	"signet/name"
)

// those is the entries of a directory that are asked for, by their names.
func those(x *inodes.Inodes, d api.Info, asked func(api.Link) bool) ([]api.Link, api.Errno) {
	var l []api.Link
	for first := 0; first < count(d); first += perLeaf {
		four, err := entries(x, d, first/perLeaf)
		if err != api.OK {
			return nil, err
		}
		for _, e := range four {
			if asked(e) {
				l = append(l, e)
			}
		}
	}
	return name.Sorted(l), api.OK
}

// List is all entries by their names.
func List(x *inodes.Inodes, dir int) ([]api.Link, api.Errno) {
	return Begins(x, dir, "")
}

// Begins is the entries whose names begin with a text.
func Begins(x *inodes.Inodes, dir int, s string) ([]api.Link, api.Errno) {
	d, err := directory(x, dir)
	if err != api.OK {
		return nil, err
	}
	return those(x, d, func(l api.Link) bool { return strings.HasPrefix(l.Name, s) })
}

// Matches is the entries whose names match a pattern.
func Matches(x *inodes.Inodes, dir int, pattern string) ([]api.Link, api.Errno) {
	d, err := directory(x, dir)
	if err != api.OK {
		return nil, err
	}
	return those(x, d, func(l api.Link) bool { return name.Match(pattern, l.Name) })
}

// Names is the names of an inode.
func Names(x *inodes.Inodes, dir, inode int) ([]string, api.Errno) {
	d, err := directory(x, dir)
	if err != api.OK {
		return nil, err
	}
	l, err := those(x, d, func(l api.Link) bool { return l.Inode == inode })
	if err != api.OK {
		return nil, err
	}
	var names []string
	for _, e := range l {
		names = append(names, e.Name)
	}
	return names, api.OK
}

// Page is some entries behind a name, and whether there are more.
func Page(x *inodes.Inodes, dir int, after string, n int) ([]api.Link, bool, api.Errno) {
	d, err := directory(x, dir)
	if err != api.OK {
		return nil, false, err
	}
	if n < 0 {
		return nil, false, api.ErrArg
	}
	l, err := those(x, d, func(l api.Link) bool { return name.Compare(l.Name, after) > 0 })
	if err != api.OK || n >= len(l) {
		return l, false, err
	}
	return l[:n:n], true, api.OK
}

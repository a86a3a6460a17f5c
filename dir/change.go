package dir

import (
	"signet/api"
	"signet/inodes"
	"signet/name"
)

// Add adds an entry behind the others.
func Add(x *inodes.Inodes, dir int, l api.Link, stamp uint64) api.Errno {
	d, err := directory(x, dir)
	if err != api.OK {
		return err
	}
	if _, err := name.Encode(l); err != api.OK {
		return err
	}
	_, last, err := search(x, d, l.Name)
	if err == api.OK {
		return api.ErrThere
	}
	if err != api.ErrMissing {
		return err
	}
	many := count(d)
	if many >= api.MaxEntries {
		return api.ErrFull
	}
	if many%perLeaf == 0 {
		last = nil
	}
	// A leaf has to be there before it can be laid.
	if err := x.Resize(dir, d.Size+api.EntryBytes, stamp); err != api.OK {
		return err
	}
	return lay(x, dir, many/perLeaf, append(last, l), stamp)
}

// Remove takes an entry away, whose place the last one takes, and tells its inode.
func Remove(x *inodes.Inodes, dir int, s string, stamp uint64) (int, api.Errno) {
	d, err := directory(x, dir)
	if err != api.OK {
		return 0, err
	}
	if err := name.Check(s); err != api.OK {
		return 0, err
	}
	place, four, err := search(x, d, s)
	if err != api.OK {
		return 0, err
	}
	gone := four[place%perLeaf].Inode
	if err := fill(x, d, place, four, stamp); err != api.OK {
		return 0, err
	}
	return gone, api.OK
}

// fill lays the last entry of a directory to a place, which is in a leaf of these entries, and makes the directory shorter by one. All that has to be read is read ahead of the first change, so that a call that fails has changed nothing: a leaf that was laid is not read for the cut, either.
func fill(x *inodes.Inodes, d api.Info, place int, four []api.Link, stamp uint64) api.Errno {
	last, end := count(d)-1, four
	if last/perLeaf != place/perLeaf {
		var err api.Errno
		if end, err = entries(x, d, last/perLeaf); err != api.OK {
			return err
		}
	}
	four[place%perLeaf] = end[last%perLeaf]
	if err := lay(x, d.Number, place/perLeaf, four, stamp); err != api.OK {
		return err
	}
	if err := lay(x, d.Number, last/perLeaf, end[:last%perLeaf], stamp); err != api.OK {
		return err
	}
	return x.Resize(d.Number, d.Size-api.EntryBytes, stamp)
}

// Swap gives a name another inode, and tells the one it had.
func Swap(x *inodes.Inodes, dir int, l api.Link, stamp uint64) (int, api.Errno) {
	d, err := directory(x, dir)
	if err != api.OK {
		return 0, err
	}
	if _, err := name.Encode(l); err != api.OK {
		return 0, err
	}
	place, four, err := search(x, d, l.Name)
	if err != api.OK {
		return 0, err
	}
	had := four[place%perLeaf].Inode
	four[place%perLeaf].Inode = l.Inode
	if err := lay(x, dir, place/perLeaf, four, stamp); err != api.OK {
		return 0, err
	}
	return had, api.OK
}

// lay lays entries into a leaf of a directory.
func lay(x *inodes.Inodes, dir, leaf int, l []api.Link, stamp uint64) api.Errno {
	b, err := name.Leaf(l...)
	if err != api.OK {
		return err
	}
	return x.Set(dir, leaf, b, stamp)
}

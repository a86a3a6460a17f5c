package branch

import (
	"signet/api"
	"signet/dir"
	"signet/inodes"
)

// Unlink takes an entry of a file away, and tells the file.
func Unlink(x *inodes.Inodes, s string, stamp uint64, busy func(int) bool) (int, api.Errno) {
	m := move{x, stamp, busy}
	at, f, err := m.taken(s)
	if err != api.OK {
		return 0, err
	}
	if f.Kind == api.KindDir {
		return 0, api.ErrIsDir
	}
	if at.asks() {
		return 0, api.ErrDir
	}
	return m.take(at, f)
}

// Rmdir takes an empty directory away, and tells it.
func Rmdir(x *inodes.Inodes, s string, stamp uint64, busy func(int) bool) (int, api.Errno) {
	m := move{x, stamp, busy}
	at, d, err := m.taken(s)
	if err != api.OK {
		return 0, err
	}
	if d.Kind != api.KindDir {
		return 0, api.ErrDir
	}
	if d.Size > 0 {
		return 0, api.ErrEmpty
	}
	return m.take(at, d)
}

// taken is where a path says, and what is there, which is to be taken away.
func (m move) taken(s string) (spot, api.Info, api.Errno) {
	at, err := m.spot(s)
	if err != api.OK {
		return spot{}, api.Info{}, err
	}
	i, err := m.there(at)
	return at, i, err
}

// take takes one entry of an inode away, and tells the inode.
func (m move) take(at spot, i api.Info) (int, api.Errno) {
	if ends(i, 1) && m.open(i.Number) {
		return 0, api.ErrBusy
	}
	return m.onCopy(func(c move) (int, api.Errno) {
		if _, err := dir.Remove(c.x, at.dir, at.name, c.stamp); err != api.OK {
			return 0, err
		}
		return i.Number, c.less(i, 1)
	})
}

// RemoveAll takes an entry away, with all beneath it, and tells how many entries that is.
func RemoveAll(x *inodes.Inodes, s string, stamp uint64, busy func(int) bool) (int, api.Errno) {
	m := move{x, stamp, busy}
	at, i, err := m.taken(s)
	if err != api.OK {
		return 0, err
	}
	if at.asks() && i.Kind != api.KindDir {
		return 0, api.ErrDir
	}
	all, err := m.beneath(i.Number)
	if err != api.OK {
		return 0, err
	}
	for _, i := range all.inodes {
		if ends(i, all.times[i.Number]) && m.open(i.Number) {
			return 0, api.ErrBusy
		}
	}
	return m.onCopy(func(c move) (int, api.Errno) {
		if _, err := dir.Remove(c.x, at.dir, at.name, c.stamp); err != api.OK {
			return 0, err
		}
		for _, i := range all.inodes {
			if err := c.less(i, all.times[i.Number]); err != api.OK {
				return 0, err
			}
		}
		return all.entries, api.OK
	})
}

// load is what goes with an entry: so many entries, that one too, the inodes that they name, as they are met, and how many times each is named.
type load struct {
	entries int
	inodes  []api.Info
	times   map[int]int
}

// beneath is what goes with an entry of an inode. What is too deep for a path to name goes, too.
func (m move) beneath(inode int) (load, api.Errno) {
	all := load{times: map[int]int{}}
	for left := []int{inode}; len(left) > 0; left = left[1:] {
		n := left[0]
		all.entries++
		all.times[n]++
		if all.times[n] > 1 {
			continue
		}
		i, err := m.x.Get(n)
		if err != api.OK {
			return load{}, err
		}
		all.inodes = append(all.inodes, i)
		if i.Kind != api.KindDir {
			continue
		}
		l, err := dir.List(m.x, n)
		if err != api.OK {
			return load{}, err
		}
		for _, e := range l {
			left = append(left, e.Inode)
		}
	}
	return all, api.OK
}

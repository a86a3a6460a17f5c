package branch

import (
	"signet/api"
	"signet/dir"
	"signet/inodes"
)

// Rename moves an entry, and tells the inode that had one where it comes to be.
func Rename(x *inodes.Inodes, old, s string, stamp uint64, busy func(int) bool) (int, api.Errno) {
	m := move{x, stamp, busy}
	from, err := m.spot(old)
	if err != api.OK {
		return 0, err
	}
	moved, err := m.there(from)
	if err != api.OK {
		return 0, err
	}
	if from.asks() && moved.Kind != api.KindDir {
		return 0, api.ErrDir
	}
	to, err := m.spot(s)
	if err != api.OK {
		return 0, err
	}
	if to.asks() && moved.Kind != api.KindDir {
		return 0, api.ErrDir
	}
	if err := m.outside(moved, to); err != api.OK {
		return 0, err
	}
	other, err := m.there(to)
	if err == api.ErrMissing {
		return m.onCopy(func(c move) (int, api.Errno) { return 0, c.away(from, to, moved) })
	}
	if err != api.OK || other.Number == moved.Number {
		return 0, err
	}
	if err := m.yields(other, moved); err != api.OK {
		return 0, err
	}
	return m.onCopy(func(c move) (int, api.Errno) { return other.Number, c.over(from, to, moved, other) })
}

// yields is OK, if an inode may give its entry to the one that is moved.
func (m move) yields(other, moved api.Info) api.Errno {
	switch {
	case other.Kind == api.KindDir && moved.Kind != api.KindDir:
		return api.ErrIsDir
	case other.Kind != api.KindDir && moved.Kind == api.KindDir:
		return api.ErrDir
	case other.Kind == api.KindDir && other.Size > 0:
		return api.ErrEmpty
	case ends(other, 1) && m.open(other.Number):
		return api.ErrBusy
	}
	return api.OK
}

// away moves an entry to where none is. The old one goes first: in a full directory it makes room.
func (m move) away(from, to spot, moved api.Info) api.Errno {
	if _, err := dir.Remove(m.x, from.dir, from.name, m.stamp); err != api.OK {
		return err
	}
	return dir.Add(m.x, to.dir, api.Link{Inode: moved.Number, Name: to.name}, m.stamp)
}

// over moves an entry to where another one is.
func (m move) over(from, to spot, moved, other api.Info) api.Errno {
	if _, err := dir.Swap(m.x, to.dir, api.Link{Inode: moved.Number, Name: to.name}, m.stamp); err != api.OK {
		return err
	}
	if err := m.less(other, 1); err != api.OK {
		return err
	}
	_, err := dir.Remove(m.x, from.dir, from.name, m.stamp)
	return err
}

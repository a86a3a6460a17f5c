package branch

import (
	"slices"

	"signet/api"
	"signet/dir"
	"signet/file"
	"signet/find"
	"signet/inodes"
)

// Copy copies what a path names, with all beneath it, and tells the copy.
func Copy(x *inodes.Inodes, old, s string, stamp uint64) (int, api.Errno) {
	m := move{x: x, stamp: stamp}
	i, err := find.Lookup(x, old)
	if err != api.OK {
		return 0, err
	}
	to, err := m.spot(s)
	if err != api.OK {
		return 0, err
	}
	if to.asks() && i.Kind != api.KindDir {
		return 0, api.ErrIsDir
	}
	if err := m.vacant(to); err != api.OK {
		return 0, err
	}
	if err := m.outside(i, to); err != api.OK {
		return 0, err
	}
	return m.onCopy(func(c move) (int, api.Errno) { return c.copy(i, to.dir, to.name) })
}

// copy copies an inode into a directory. Its entry comes ahead of what hangs beneath it, so that numbers and errors come in that order, too.
func (m move) copy(i api.Info, in int, name string) (int, api.Errno) {
	n, err := m.fresh(in, name, i.Kind)
	if err != api.OK {
		return 0, err
	}
	if i.Kind != api.KindDir {
		return n, m.fill(n, i)
	}
	l, err := dir.List(m.x, i.Number)
	if err != api.OK {
		return 0, err
	}
	for _, e := range l {
		beneath, err := m.x.Get(e.Inode)
		if err != api.OK {
			return 0, err
		}
		if _, err := m.copy(beneath, n, e.Name); err != api.OK {
			return 0, err
		}
	}
	return n, api.OK
}

// fill lays the bytes of a file into a new one. Leaves of zeros are there already: a file of holes is copied for next to nothing.
func (m move) fill(n int, f api.Info) api.Errno {
	if err := file.Truncate(m.x, n, f.Size, m.stamp); err != api.OK {
		return err
	}
	for at := 0; at < f.Size; at += api.BlockBytes {
		place := at / api.BlockBytes
		leaf, err := m.x.Leaf(f.Number, place)
		if err != api.OK {
			return err
		}
		if leaf == (api.Block{}) {
			continue
		}
		if err := m.x.Set(n, place, leaf, m.stamp); err != api.OK {
			return err
		}
	}
	return api.OK
}

// Same tells whether two paths name files with the same bytes, or directories with the same names, of each of which the same holds.
func Same(x *inodes.Inodes, a, b string) (bool, api.Errno) {
	i, err := find.Lookup(x, a)
	if err != api.OK {
		return false, err
	}
	j, err := find.Lookup(x, b)
	if err != api.OK {
		return false, err
	}
	held := likes{}
	for left := []pair{{i.Number, j.Number}}; len(left) > 0; left = left[1:] {
		if !held.join(left[0]) {
			continue
		}
		same, beneath, err := left[0].alike(x)
		if err != api.OK || !same {
			return false, err
		}
		left = append(left, beneath...)
	}
	return true, api.OK
}

// pair is two inodes that are held against each other.
type pair struct{ one, other int }

// alike tells whether two inodes are the same, if those beneath them are, which are told, too.
func (p pair) alike(x *inodes.Inodes) (bool, []pair, api.Errno) {
	i, err := x.Get(p.one)
	if err != api.OK {
		return false, nil, err
	}
	j, err := x.Get(p.other)
	if err != api.OK || i.Kind != j.Kind || i.Size != j.Size {
		return false, nil, err
	}
	if i.Kind == api.KindDir {
		return p.entries(x)
	}
	same, err := file.Same(x, p.one, p.other)
	return same, nil, err
}

// entries tells whether two directories have the same names, and the pairs of inodes that they name.
func (p pair) entries(x *inodes.Inodes) (bool, []pair, api.Errno) {
	l, err := dir.List(x, p.one)
	if err != api.OK {
		return false, nil, err
	}
	o, err := dir.List(x, p.other)
	if err != api.OK || !slices.EqualFunc(l, o, func(a, b api.Link) bool { return a.Name == b.Name }) {
		return false, nil, err
	}
	var beneath []pair
	for i := range l {
		beneath = append(beneath, pair{l[i].Inode, o[i].Inode})
	}
	return true, beneath, api.OK
}

// likes is inodes that must be the same: each that is in it has one to which it is held, and so on to one that is not in it.
type likes map[int]int

// last is the inode to which one is held at last.
func (l likes) last(inode int) int {
	for {
		next, is := l[inode]
		if !is {
			return inode
		}
		inode = next
	}
}

// join holds two inodes to each other, and tells whether they were not yet. So each pair is asked about once, and directories that hang in themselves come to an end.
func (l likes) join(p pair) bool {
	one, other := l.last(p.one), l.last(p.other)
	if one == other {
		return false
	}
	l[one] = other
	return true
}

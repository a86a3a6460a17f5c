package branch

import (
	"slices"

	"signet/api"
	"signet/dir"
	"signet/find"
	"signet/inodes"
)

// move is a change of the tree of names: the inodes that it is done to, the stamp that it lays, and whether an inode is open.
type move struct {
	x     *inodes.Inodes
	stamp uint64
	busy  func(int) bool // nil: none is open
}

// open tells whether an inode is open.
func (m move) open(inode int) bool {
	return m.busy != nil && m.busy(inode)
}

// onCopy does something to a copy of the inodes, which is kept if nothing was wrong: where a step fails behind others, all is left as it was.
func (m move) onCopy(do func(c move) (int, api.Errno)) (int, api.Errno) {
	c := m
	c.x = m.x.Clone()
	n, err := do(c)
	if err != api.OK {
		return 0, err
	}
	*m.x = *c.x
	return n, api.OK
}

// spot is where an entry is, or may come to be: a directory, a name, and the path that says so.
type spot struct {
	dir  int
	name string
	path api.Path
}

// asks tells whether the path asks for a directory.
func (at spot) asks() bool {
	return at.path.Dir
}

// spot is where a path says.
func (m move) spot(s string) (spot, api.Errno) {
	in, name, p, err := find.Parent(m.x, s)
	return spot{in, name, p}, err
}

// there is what is there at a spot.
func (m move) there(at spot) (api.Info, api.Errno) {
	n, _, err := dir.Find(m.x, at.dir, at.name)
	if err != api.OK {
		return api.Info{}, err
	}
	return m.x.Get(n)
}

// vacant is ErrThere, if something is there at a spot.
func (m move) vacant(at spot) api.Errno {
	_, _, err := dir.Find(m.x, at.dir, at.name)
	if err == api.OK {
		return api.ErrThere
	}
	if err == api.ErrMissing {
		return api.OK
	}
	return err
}

// outside is ErrInside, if a spot is in a directory, or beneath it. A directory has one path, so that all that it lies beneath are on the way to it.
func (m move) outside(i api.Info, at spot) api.Errno {
	if i.Kind != api.KindDir {
		return api.OK
	}
	last := len(at.path.Names) - 1
	way, _, err := find.Chain(m.x, at.path.Names[:last])
	if err != api.OK {
		return err
	}
	if slices.Contains(way, i.Number) {
		return api.ErrInside
	}
	return api.OK
}

// ends tells whether an inode is dropped when so many of its entries go.
func ends(i api.Info, entries int) bool {
	return i.Kind == api.KindDir || i.Links <= entries
}

// less takes so many of an inode's links away, and drops it where none is left.
func (m move) less(i api.Info, entries int) api.Errno {
	if ends(i, entries) {
		return m.x.Drop(i.Number)
	}
	return m.x.Links(i.Number, -entries, m.stamp)
}

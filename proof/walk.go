package proof

import (
	"slices"
	"strings"

	"signet/api"
	"signet/cache"
	"signet/inode"
	"signet/name"
	"signet/node"
	"signet/path"
	"signet/super"
	"signet/tree"
)

const (
	rootDir = 1 // the number of the root directory
	perLeaf = api.BlockBytes / api.EntryBytes
)

// walk is a going through a committed tree: the inode that is reached, and what a proof has so far.
type walk struct {
	c      *cache.Cache
	root   api.Super
	number int
	inode  api.Inode
	text   strings.Builder
}

// reach walks to what a path names in the tree that is committed under a slot.
func reach(c *cache.Cache, s api.Slot, at string) (*walk, api.Errno) {
	if c == nil {
		return nil, api.ErrCut
	}
	p, _, err := path.Parse(at)
	if err != api.OK {
		return nil, err
	}
	w, err := begin(c, s)
	if err != api.OK {
		return nil, err
	}
	for _, s := range p.Names {
		if err := w.follow(s); err != api.OK {
			return nil, err
		}
	}
	if p.Dir && w.inode.Kind != api.KindDir {
		return nil, api.ErrDir
	}
	return w, api.OK
}

// begin is a walk that has reached the root directory.
func begin(c *cache.Cache, s api.Slot) (*walk, api.Errno) {
	// The cache would answer zeros for none; no block is committed there.
	if node.None(s.Root) {
		return nil, api.ErrSuper
	}
	b, err := c.Get(s.Root)
	if err != api.OK {
		return nil, err
	}
	root, err := super.Decode(b)
	if err != api.OK {
		return nil, err
	}
	if !super.Fits(root, s, c.Disk().Blocks()) {
		return nil, api.ErrArg
	}
	w := &walk{c: c, root: root}
	w.put([]api.Block{b})
	return w, w.enter(rootDir)
}

// put puts blocks behind what the proof has so far.
func (w *walk) put(way []api.Block) {
	for _, b := range way {
		w.text.Write(b[:])
	}
}

// putPlace puts an entry's place there, the lowest byte first.
func (w *walk) putPlace(place int) {
	w.text.Write([]byte{byte(place), byte(place >> 8), byte(place >> 16), byte(place >> 24)})
}

// leaf is a leaf of a tree, and the blocks on the way to it. They are read together, so that what is answered is just what the proof says.
func (w *walk) leaf(t api.Tree, place int) (api.Block, []api.Block, api.Errno) {
	way, err := tree.Blocks(w.c, t, place)
	if err != api.OK {
		return api.Block{}, nil, err
	}
	// A way that meets a none is shorter, and what hangs there is zeros.
	if len(way) <= t.Height {
		return api.Block{}, way, api.OK
	}
	return way[t.Height], way, api.OK
}

// enter goes to an inode. One that is not in use has no proof, though an entry may name it.
func (w *walk) enter(number int) api.Errno {
	if number > w.root.Inodes {
		return api.ErrNone
	}
	place, in, err := inode.Place(number)
	if err != api.OK {
		return err
	}
	leaf, way, err := w.leaf(w.root.Table, place)
	if err != api.OK {
		return err
	}
	four, _, err := inode.FromLeaf(leaf)
	if err != api.OK {
		return err
	}
	if four[in].Kind == api.KindNone {
		return api.ErrNone
	}
	w.put(way)
	w.number, w.inode = number, four[in]
	return api.OK
}

// follow goes to the inode that a name has in the directory that is reached.
func (w *walk) follow(s string) api.Errno {
	if w.inode.Kind != api.KindDir {
		return api.ErrDir
	}
	next := 0
	err := w.search(func(e entries) bool {
		i := slices.IndexFunc(e.links, func(l api.Link) bool { return l.Name == s })
		if i < 0 {
			return true
		}
		w.putPlace(e.first + i)
		w.put(e.way)
		next = e.links[i].Inode
		return false
	})
	if err != api.OK {
		return err
	}
	if next == 0 {
		return api.ErrMissing
	}
	return w.enter(next)
}

// entries is those of one leaf of a directory, the first one's place, and the blocks on the way to the leaf.
type entries struct {
	first int
	links []api.Link
	way   []api.Block
}

// search reads the directory's leaves that is reached from the first on, until met answers false. What is behind is not read: a fault there is not met.
func (w *walk) search(met func(entries) bool) api.Errno {
	count := w.inode.Size / api.EntryBytes
	for first := 0; first < count; first += perLeaf {
		leaf, way, err := w.leaf(w.inode.Tree, first/perLeaf)
		if err != api.OK {
			return err
		}
		links, err := name.FromLeaf(leaf, min(perLeaf, count-first))
		if err != api.OK {
			return err
		}
		if !met(entries{first, links, way}) {
			return api.OK
		}
	}
	return api.OK
}

package verify

import (
	"signet/api"
	"signet/digest"
	"signet/inode"
	"signet/name"
	"signet/node"
	"signet/super"
)

const (
	rootDir    = 1 // the number of the root directory
	perLeaf    = api.BlockBytes / api.EntryBytes
	placeBytes = 4 // of an entry's place
	kidBits    = 2 // of a leaf's place, for each level
)

// view is a text that is gone through from the front: what is left of it, how many blocks were taken, and the inode that is reached.
type view struct {
	l     *digest.Log
	text  string
	taken int
	root  api.Super
	inode api.Inode
}

// reach goes to the inode of a path's names.
func reach(l *digest.Log, s api.Slot, names []string, text string) (*view, api.Errno) {
	v, err := begin(l, s, text)
	if err != api.OK {
		return nil, err
	}
	if err := v.enter(rootDir); err != api.OK {
		return nil, err
	}
	for _, s := range names {
		if err := v.follow(s); err != api.OK {
			return nil, err
		}
	}
	return v, api.OK
}

// begin takes the root.
func begin(l *digest.Log, s api.Slot, text string) (*view, api.Errno) {
	if node.None(s.Root) {
		return nil, api.ErrProof
	}
	v := &view{l: l, text: text}
	b, err := v.take(s.Root)
	if err != api.OK {
		return nil, err
	}
	root, err := super.Decode(b)
	if err != api.OK || root.Counter != s.Counter {
		return nil, api.ErrProof
	}
	v.root = root
	return v, api.OK
}

// take takes the block of a reference. Nothing of it is looked at ahead of its digest.
func (v *view) take(r api.Ref) (api.Block, api.Errno) {
	s, err := v.next(api.BlockBytes)
	if err != api.OK {
		return api.Block{}, err
	}
	b := api.Block([]byte(s))
	if !node.Holds(v.l, r, b) {
		return api.Block{}, api.ErrTampered
	}
	v.taken++
	return b, api.OK
}

// next is the next bytes of the text.
func (v *view) next(n int) (string, api.Errno) {
	if len(v.text) < n {
		return "", api.ErrProof
	}
	s := v.text[:n]
	v.text = v.text[n:]
	return s, api.OK
}

// end asks that nothing is left.
func (v *view) end() api.Errno {
	if v.text != "" {
		return api.ErrProof
	}
	return api.OK
}

// leaf goes to a leaf of a tree. Beneath none all is zeros, and the text has nothing of it.
func (v *view) leaf(t api.Tree, place int) (api.Block, api.Errno) {
	r := t.Root
	for level := t.Height; !node.None(r); level-- {
		b, err := v.take(r)
		if err != api.OK || level == 0 {
			return b, err
		}
		n, err := node.Read(b)
		if err != api.OK || n.Level != level {
			return api.Block{}, api.ErrProof
		}
		r = n.Kids[place>>(kidBits*(level-1))%api.Fan]
	}
	return api.Block{}, api.OK
}

// enter goes to an inode.
func (v *view) enter(number int) api.Errno {
	place, in, err := inode.Place(number)
	if err != api.OK || number > v.root.Inodes || place>>(kidBits*v.root.Table.Height) > 0 {
		return api.ErrProof
	}
	leaf, err := v.leaf(v.root.Table, place)
	if err != api.OK {
		return err
	}
	four, _, err := inode.FromLeaf(leaf)
	if err != api.OK || four[in].Kind == api.KindNone {
		return api.ErrProof
	}
	v.inode = four[in]
	return api.OK
}

// follow goes to the inode that a name has in the directory that is reached. The text tells the entry's place, which the name there must bear out.
func (v *view) follow(s string) api.Errno {
	if v.inode.Kind != api.KindDir {
		return api.ErrDir
	}
	place, err := v.place()
	if err != api.OK {
		return err
	}
	links, err := v.entries(place / perLeaf)
	if err != api.OK {
		return err
	}
	if links[place%perLeaf].Name != s {
		return api.ErrProof
	}
	return v.enter(links[place%perLeaf].Inode)
}

// place is an entry's place, which is next in the text, the lowest byte first.
func (v *view) place() (int, api.Errno) {
	s, err := v.next(placeBytes)
	if err != api.OK {
		return 0, err
	}
	place := uint32(s[0]) | uint32(s[1])<<8 | uint32(s[2])<<16 | uint32(s[3])<<24
	// It is held against the count without a sign, so that it can't be below 0, however narrow an int is.
	if place >= uint32(v.count()) {
		return 0, api.ErrProof
	}
	return int(place), api.OK
}

// count is how many entries the directory has that is reached.
func (v *view) count() int { return v.inode.Size / api.EntryBytes }

// entries goes to the entries of one leaf of the directory that is reached.
func (v *view) entries(place int) ([]api.Link, api.Errno) {
	leaf, err := v.leaf(v.inode.Tree, place)
	if err != api.OK {
		return nil, err
	}
	links, err := name.FromLeaf(leaf, min(perLeaf, v.count()-place*perLeaf))
	if err != api.OK {
		return nil, api.ErrProof
	}
	return links, api.OK
}

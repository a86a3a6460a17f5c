package verify_test

import (
	"slices"
	"strings"

	"signet/api"
	"signet/digest"
	"signet/inode"
	"signet/name"
	"signet/node"
	"signet/path"
	"signet/super"
)

// The chapter gone through once more, in another way: each fault panics with its error, and what was met ahead of it is kept.

// told is what is met in a text.
type told struct {
	err      api.Errno
	root     api.Super
	inode    api.Inode
	links    []api.Link
	blocks   []int    // where the blocks stand that were taken
	places   []int    // where the entries' places stand
	digested []string // each once, in their order
}

// model is a text that is gone through.
type model struct {
	told
	text string
	at   int
}

// through goes through a text.
func through(text string, do func(m *model)) told {
	m := &model{text: text}
	func() {
		defer func() {
			switch fault := recover().(type) {
			case nil:
			case api.Errno:
				m.err = fault
			default:
				panic(fault)
			}
		}()
		do(m)
	}()
	return m.told
}

// unless panics with an error, unless something is right.
func unless(right bool, err api.Errno) {
	if !right {
		panic(err)
	}
}

// next is the next bytes of the text, and where they stand.
func (m *model) next(many int) (string, int) {
	unless(m.at+many <= len(m.text), api.ErrProof)
	m.at += many
	return m.text[m.at-many : m.at], m.at - many
}

// take takes a block.
func (m *model) take(x api.Ref) (b api.Block) {
	s, at := m.next(256)
	if !slices.Contains(m.digested, s) {
		m.digested = append(m.digested, s)
	}
	unless(digest.Of(1, s) == x.Sum, api.ErrTampered)
	m.blocks = append(m.blocks, at)
	copy(b[:], s)
	return b
}

// leaf goes to a leaf.
func (m *model) leaf(height int, x api.Ref, place int) api.Block {
	if x == (api.Ref{}) {
		return api.Block{}
	}
	b := m.take(x)
	if height == 0 {
		return b
	}
	n, err := node.Read(b)
	unless(err == api.OK && n.Level == height, api.ErrProof)
	width := 1
	for range height - 1 {
		width *= 4
	}
	return m.leaf(height-1, n.Kids[place/width], place%width)
}

// enter goes to an inode.
func (m *model) enter(number int) {
	unless(number <= m.root.Inodes, api.ErrProof)
	b := m.leaf(m.root.Table.Height, m.root.Table.Root, (number-1)/4)
	four, _, err := inode.FromLeaf(b)
	unless(err == api.OK, api.ErrProof)
	m.inode = four[(number-1)%4]
	unless(m.inode.Kind != api.KindNone, api.ErrProof)
}

// many is how many entries the directory has in a leaf.
func (m *model) many(leaf int) int { return min(4, m.inode.Size/64-4*leaf) }

// entries goes to a directory's leaf.
func (m *model) entries(leaf int) []api.Link {
	b := m.leaf(m.inode.Tree.Height, m.inode.Tree.Root, leaf)
	l, err := name.FromLeaf(b, m.many(leaf))
	unless(err == api.OK, api.ErrProof)
	return l
}

// begin takes the root.
func (m *model) begin(s api.Slot) {
	unless(s.Root != (api.Ref{}), api.ErrProof)
	root, err := super.Decode(m.take(s.Root))
	unless(err == api.OK && root.Counter == s.Counter, api.ErrProof)
	m.root = root
}

// reach goes to the inode of some names.
func (m *model) reach(s api.Slot, names []string) {
	m.begin(s)
	m.enter(1)
	for _, s := range names {
		unless(m.inode.Kind == api.KindDir, api.ErrDir)
		four, at := m.next(4)
		m.places = append(m.places, at)
		place := 0
		for i := range 4 {
			place += int(four[i]) << (8 * i)
		}
		unless(place < m.inode.Size/64, api.ErrProof)
		l := m.entries(place / 4)
		unless(l[place%4].Name == s, api.ErrProof)
		m.enter(l[place%4].Inode)
	}
}

// end asks that nothing is left.
func (m *model) end() { unless(m.at == len(m.text), api.ErrProof) }

// meantRoot is what Root must tell.
func meantRoot(s api.Slot, text string) told {
	return through(text, func(m *model) { m.begin(s) })
}

// meantCheck is what Check must tell.
func meantCheck(s api.Slot, p string, off int, bytes, text string) told {
	return through(text, func(m *model) {
		x, _, err := path.Parse(p)
		unless(err == api.OK, err)
		unless(off >= 0, api.ErrArg)
		m.reach(s, x.Names)
		unless(!x.Dir || m.inode.Kind == api.KindDir, api.ErrDir)
		unless(m.inode.Kind == api.KindFile, api.ErrArg)
		unless(off <= m.inode.Size && len(bytes) <= m.inode.Size-off, api.ErrRange)
		for leaf := off / 256; len(bytes) > 0 && leaf <= (off+len(bytes)-1)/256; leaf++ {
			b := m.leaf(m.inode.Tree.Height, m.inode.Tree.Root, leaf)
			from, to := max(off, 256*leaf), min(off+len(bytes), 256*leaf+256)
			unless(strings.Contains(string(b[from-256*leaf:to-256*leaf]), bytes[from-off:to-off]), api.ErrClaim)
		}
		m.end()
	})
}

// names goes through the list of some names.
func (m *model) names(s api.Slot, names []string) {
	m.reach(s, names)
	unless(m.inode.Kind == api.KindDir, api.ErrDir)
	var all []api.Link
	for leaf := 0; m.many(leaf) > 0; leaf++ {
		all = append(all, m.entries(leaf)...)
	}
	m.end()
	slices.SortStableFunc(all, func(a, b api.Link) int {
		if a.Name != b.Name {
			return strings.Compare(a.Name, b.Name)
		}
		return a.Inode - b.Inode
	})
	m.links = all
}

// meantList is what List must tell.
func meantList(s api.Slot, p, text string) told {
	return through(text, func(m *model) {
		x, _, err := path.Parse(p)
		unless(err == api.OK, err)
		m.names(s, x.Names)
	})
}

// meantMissing is what CheckMissing must tell.
func meantMissing(s api.Slot, p, text string) told {
	return through(text, func(m *model) {
		x, _, err := path.Parse(p)
		unless(err == api.OK, err)
		unless(len(x.Names) > 0, api.ErrPath)
		last := len(x.Names) - 1
		m.names(s, x.Names[:last])
		unless(!slices.ContainsFunc(m.links, func(l api.Link) bool { return l.Name == x.Names[last] }), api.ErrClaim)
	})
}

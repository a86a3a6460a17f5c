package tree

import (
	"signet/api"
	"signet/cache"
	"signet/node"
)

// Diff is the positions at which the second tree has something that the first one has not.
func Diff(c *cache.Cache, a, b api.Tree) ([]api.Pos, api.Errno) {
	if !right(a) || !right(b) {
		return nil, api.ErrArg
	}
	var unlike []api.Pos
	s := search{c, a, func(p api.Pos) { unlike = append(unlike, p) }}
	if err := s.start(root(b)); err != api.OK {
		return nil, err
	}
	return unlike, api.OK
}

// search looks for what another tree has that an old one has not.
type search struct {
	c    *cache.Cache
	old  api.Tree
	tell func(api.Pos)
}

// start looks from the other tree's root on.
func (s search) start(p api.Pos) api.Errno {
	if p.Level >= s.old.Height || node.None(p.Ref) {
		return s.look(p, api.Ref{})
	}
	// In a higher tree the position hangs somewhere beneath the root.
	r, err := Ref(s.c, s.old, p.Level, p.Place)
	if err != api.OK {
		return err
	}
	return s.look(p, r)
}

// look looks at a position and beneath it; there the old tree has a reference, if it is the higher one or its root was met.
func (s search) look(p api.Pos, old api.Ref) api.Errno {
	if p.Level == s.old.Height && p.Place == 0 {
		old = s.old.Root
	}
	if node.None(p.Ref) || alike(p.Ref, old) {
		return api.OK
	}
	s.tell(p)
	if p.Level == 0 {
		return api.OK
	}
	m, err := s.oldNode(api.Pos{Level: p.Level, Ref: old})
	if err != api.OK {
		return err
	}
	_, n, err := readNode(s.c, p)
	if err != api.OK {
		return err
	}
	for place := range api.Fan {
		if err := s.look(beneath(p, n, place), m.Kids[place]); err != api.OK {
			return err
		}
	}
	return api.OK
}

// oldNode is a node of the old tree; one of four nones, where it has none.
func (s search) oldNode(p api.Pos) (api.Node, api.Errno) {
	if node.None(p.Ref) {
		return api.Node{}, api.OK
	}
	_, n, err := readNode(s.c, p)
	return n, err
}

// alike tells whether two references, of which the first is not none, say the same, wherever it lies.
func alike(r, old api.Ref) bool {
	return !node.None(old) && r.Sum == old.Sum
}

// Same tells whether two trees say the same.
func Same(c *cache.Cache, a, b api.Tree) (bool, api.Errno) {
	more, err := Diff(c, a, b)
	if err != api.OK {
		return false, err
	}
	less, err := Diff(c, b, a)
	if err != api.OK {
		return false, err
	}
	return a.Height == b.Height && len(more) == 0 && len(less) == 0, api.OK
}

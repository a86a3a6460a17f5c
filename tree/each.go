package tree

import (
	"signet/api"
	"signet/cache"
	"signet/node"
)

// walk goes over a position and all that hang beneath it, but those whose references are none. Each is handed to enter, which tells whether what hangs beneath it is asked for; only then it is read.
func walk(c *cache.Cache, p api.Pos, enter func(api.Pos) (bool, api.Errno)) api.Errno {
	if node.None(p.Ref) {
		return api.OK
	}
	asked, err := enter(p)
	if err != api.OK || !asked || p.Level == 0 {
		return err
	}
	_, n, err := readNode(c, p)
	if err != api.OK {
		return err
	}
	for place := range api.Fan {
		if err := walk(c, beneath(p, n, place), enter); err != api.OK {
			return err
		}
	}
	return api.OK
}

// Each does something with each position.
func Each(c *cache.Cache, t api.Tree, do func(api.Pos) bool) api.Errno {
	if !right(t) || do == nil {
		return api.ErrArg
	}
	on := true
	return walk(c, root(t), func(p api.Pos) (bool, api.Errno) {
		on = on && do(p)
		return on, api.OK
	})
}

// All is all positions.
func All(c *cache.Cache, t api.Tree) ([]api.Pos, api.Errno) {
	var all []api.Pos
	err := Each(c, t, func(p api.Pos) bool {
		all = append(all, p)
		return true
	})
	if err != api.OK {
		return nil, err
	}
	return all, api.OK
}

// Count is how many leaves and nodes there are.
func Count(c *cache.Cache, t api.Tree) (int, int, api.Errno) {
	leaves, nodes := 0, 0
	err := Each(c, t, func(p api.Pos) bool {
		if p.Level == 0 {
			leaves++
		} else {
			nodes++
		}
		return true
	})
	if err != api.OK {
		return 0, 0, err
	}
	return leaves, nodes, api.OK
}

// Last is the place of the last leaf.
func Last(c *cache.Cache, t api.Tree) (int, api.Errno) {
	last := -1
	// Earlier places are read first, whatever is asked: so an error among them is told here, too.
	err := Each(c, t, func(p api.Pos) bool {
		if p.Level == 0 {
			last = p.Place
		}
		return true
	})
	if err != api.OK {
		return 0, err
	}
	return last, api.OK
}

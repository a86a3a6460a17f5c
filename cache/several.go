package cache

import (
	"signet/api"
)

// GetAll is the blocks that several references say.
func (c *Cache) GetAll(l []api.Ref) ([]api.Block, int, api.Errno) {
	var blocks []api.Block
	for place, r := range l {
		b, err := c.Get(r)
		if err != api.OK {
			return nil, place, err
		}
		blocks = append(blocks, b)
	}
	return blocks, 0, api.OK
}

// Sweep takes out the entries that the disk does not have any more.
func (c *Cache) Sweep() ([]api.Ref, api.Errno) {
	if c == nil {
		return nil, api.ErrCut
	}
	var bad []api.Ref
	for _, r := range c.Entries() {
		switch err := c.Check(r); err {
		case api.OK:
		case api.ErrTampered:
			bad = append(bad, r)
		default:
			return nil, err
		}
	}
	for _, r := range bad {
		c.kept.drop(r)
	}
	return bad, api.OK
}

package commit

import (
	"signet/api"
	"signet/cache"
	"signet/grow"
	"signet/room"
)

// blocksOf is the numbers of a tree's blocks. Its leaves are not read for it.
func blocksOf(c *cache.Cache, t api.Tree) ([]uint32, api.Errno) {
	g, err := grow.New(c, t)
	if err != api.OK {
		return nil, err
	}
	// Where no leaf is left, all that stands is gone.
	g.Fit(0)
	return g.Gone()
}

// layMap lays out the map of a room as it will be. Its own blocks are taken first, as it has their bits, too.
func layMap(c *cache.Cache, m *room.Room) (api.Tree, []api.Write, api.Errno) {
	many, err := Map(m.Blocks())
	if err != api.OK {
		return api.Tree{}, nil, err
	}
	taken, err := takeMany(many, m.Take)
	if err != api.OK {
		return api.Tree{}, nil, err
	}
	// It grows beside no tree: where the committed one would be the same, it is new all the same.
	g, err := grow.New(c, api.Tree{})
	if err != api.OK {
		return api.Tree{}, nil, err
	}
	leaves := m.Leaves()
	g.Fit(len(leaves))
	for place, b := range leaves {
		g.Set(place, b)
	}
	return g.Lay(taken)
}

// takeMany takes so many blocks ahead, and is a function that tells their numbers, one a call.
func takeMany(many int, take func() (uint32, api.Errno)) (func() (uint32, api.Errno), api.Errno) {
	var ahead []uint32
	for range many {
		at, err := take()
		if err != api.OK {
			return nil, err
		}
		ahead = append(ahead, at)
	}
	return func() (uint32, api.Errno) {
		if len(ahead) == 0 {
			return 0, api.ErrNoSpace
		}
		at := ahead[0]
		ahead = ahead[1:]
		return at, api.OK
	}, api.OK
}

// numbers is where blocks are to be written.
func numbers(writes []api.Write) []uint32 {
	var l []uint32
	for _, w := range writes {
		l = append(l, w.At)
	}
	return l
}

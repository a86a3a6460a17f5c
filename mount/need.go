package mount

import (
	"signet/api"
	"signet/commit"
	"signet/tree"
)

// Least is how many used blocks a fresh tree has: those of its map, the table's leaf and the root block.
func Least(blocks int) (int, api.Errno) {
	mapped, err := commit.Map(blocks)
	if err != api.OK {
		return 0, api.ErrSuper
	}
	return mapped + 2, api.OK
}

// Need is how many blocks a file of so many bytes takes, none of whose leaves is all zero.
func Need(size int) (int, api.Errno) {
	if size < 0 || size > api.MaxFile {
		return 0, api.ErrArg
	}
	leaves := over(size, api.BlockBytes)
	height, err := tree.Height(leaves)
	if err != api.OK {
		return 0, err
	}
	all := 0
	for level := range height + 1 {
		beneath, err := tree.Capacity(level)
		if err != api.OK {
			return 0, err
		}
		all += over(leaves, beneath)
	}
	return all, api.OK
}

// over is how many things have room for all, so many in each.
func over(all, inEach int) int {
	return (all + inEach - 1) / inEach
}

// Left is how many blocks are left behind a commit; below 0, where there is no room for it.
func Left(s *commit.State) (int, api.Errno) {
	fresh, err := s.New()
	if err != api.OK {
		return 0, err
	}
	root := s.Root()
	return root.Blocks - 1 - root.Used - fresh, api.OK
}

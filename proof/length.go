package proof

import "signet/api"

const (
	longestText = 1 << 24           // bytes of a text that may be a proof
	longestWay  = api.MaxHeight + 1 // blocks from a tree's root to a leaf
	placeBytes  = 4                 // of an entry's place
)

// Blocks is how many blocks a text has at most.
func Blocks(text string) (int, api.Errno) {
	if len(text) == 0 || len(text) > longestText {
		return 0, api.ErrProof
	}
	return len(text) / api.BlockBytes, api.OK
}

// Longest is how long a proof is at most: the root block, a way for each inode, for each name and for each leaf, and each name's place.
func Longest(names, n int) (int, api.Errno) {
	if names < 0 || names > api.MaxDepth || n < 0 || n > api.MaxFile {
		return 0, api.ErrArg
	}
	ways := (names + 1) + names + mostLeaves(n)
	return api.BlockBytes*(1+longestWay*ways) + placeBytes*names, api.OK
}

// mostLeaves is over how many leaves so many bytes reach, if the first one is the last of its leaf.
func mostLeaves(n int) int {
	if n == 0 {
		return 0
	}
	return (n + 2*api.BlockBytes - 2) / api.BlockBytes
}

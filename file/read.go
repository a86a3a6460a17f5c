package file

import (
	"strings"

	"signet/api"
	"signet/inodes"
)

// Read is the bytes of a range that a file has.
func Read(x *inodes.Inodes, n, at, many int) (string, api.Errno) {
	f, err := one(x, n)
	if err != api.OK {
		return "", err
	}
	if at < 0 || many < 0 {
		return "", api.ErrArg
	}
	return text(x, f, at, there(f, at, many))
}

// text is so many bytes of a file, all of which it has.
func text(x *inodes.Inodes, f api.Info, at, many int) (string, api.Errno) {
	var s strings.Builder
	s.Grow(many)
	for s.Len() < many {
		place := at + s.Len()
		leaf, err := x.Leaf(f.Number, place/api.BlockBytes)
		if err != api.OK {
			return "", err
		}
		rest := leaf[place%api.BlockBytes:]
		s.Write(rest[:min(len(rest), many-s.Len())])
	}
	return s.String(), api.OK
}

// Same tells whether two files have the same bytes.
func Same(x *inodes.Inodes, a, b int) (bool, api.Errno) {
	f, g, err := two(x, a, b)
	if err != api.OK || f.Size != g.Size {
		return false, err
	}
	for place := range leaves(f.Size) {
		leaf, err := x.Leaf(a, place)
		if err != api.OK {
			return false, err
		}
		other, err := x.Leaf(b, place)
		if err != api.OK || leaf != other {
			return false, err
		}
	}
	return true, api.OK
}

// Holes is the longest stretches of leaves of a file that are zeros.
func Holes(x *inodes.Inodes, n int) ([]api.Run, api.Errno) {
	f, err := one(x, n)
	if err != api.OK {
		return nil, err
	}
	var holes []api.Run
	for place := range leaves(f.Size) {
		leaf, err := x.Leaf(n, place)
		if err != api.OK {
			return nil, err
		}
		if leaf == (api.Block{}) {
			holes = withPlace(holes, place)
		}
	}
	return holes, api.OK
}

// withPlace is stretches with a place behind all of theirs, which the last of them takes in, if it ends there.
func withPlace(l []api.Run, place int) []api.Run {
	if last := len(l) - 1; last >= 0 && l[last].To == place-1 {
		l[last].To = place
		return l
	}
	return append(l, api.Run{From: place, To: place})
}

// leaves is how many leaves so many bytes take.
func leaves(size int) int {
	return (size + api.BlockBytes - 1) / api.BlockBytes
}

package block

import (
	"signet/api"
)

// Patches is what makes the first block the second one: the longest stretches at which they differ.
func Patches(a, b api.Block) []api.Patch {
	var l []api.Patch
	for at := 0; at < len(a); {
		end := stretch(a, b, at)
		if end > at {
			l = append(l, api.Patch{At: at, Data: string(b[at:end])})
		}
		// Both blocks are alike at the end of a stretch, so that no other one begins there.
		at = end + 1
	}
	return l
}

// stretch is the end of the places, from one on, at which two blocks differ.
func stretch(a, b api.Block, at int) int {
	for at < len(a) && a[at] != b[at] {
		at++
	}
	return at
}

// Apply is a block with patches laid into it, or the place of the first patch that does not fit.
func Apply(a api.Block, l []api.Patch) (api.Block, int, api.Errno) {
	for i, p := range l {
		patched, err := Lay(a, p.At, p.Data)
		if err != api.OK {
			return api.Block{}, i, err
		}
		a = patched
	}
	return a, 0, api.OK
}

// Near is the place of the block that differs from another one at the fewest places, or -1, and at how many.
func Near(l []api.Block, b api.Block) (int, int) {
	nearest, fewest := -1, 0
	for at := range l {
		_, many := Differ(l[at], b)
		if nearest < 0 || many < fewest {
			nearest, fewest = at, many
		}
	}
	return nearest, fewest
}

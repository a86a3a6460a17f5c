package file

import (
	"signet/api"
	"signet/inodes"
)

// Find is the least place from at on at which a text stands in a file, or -1.
func Find(x *inodes.Inodes, n, at int, s string) (int, api.Errno) {
	f, err := one(x, n)
	if err != api.OK {
		return 0, err
	}
	if at < 0 {
		return 0, api.ErrArg
	}
	// A text that no file could have is not even looked at.
	if len(s) > f.Size-at {
		return -1, api.OK
	}
	return find(x, f, at, s)
}

// find looks at each byte once, so that a text that nearly stands at many places is found as fast as any, and at none behind the text that is found.
func find(x *inodes.Inodes, f api.Info, at int, s string) (int, api.Errno) {
	var leaf api.Block
	shorter, done := starts(s), 0
	for place := at; len(s)-done <= f.Size-place; place++ {
		if done == len(s) {
			return place - done, api.OK
		}
		if place == at || place%api.BlockBytes == 0 {
			var err api.Errno
			if leaf, err = x.Leaf(f.Number, place/api.BlockBytes); err != api.OK {
				return 0, err
			}
		}
		done = longer(s, shorter, done, leaf[place%api.BlockBytes])
	}
	return -1, api.OK
}

// longer is how much of s stands at the end of what was looked at, when a byte comes behind so much of it.
func longer(s string, shorter []int, done int, c byte) int {
	for done > 0 && s[done] != c {
		done = shorter[done]
	}
	if s[done] == c {
		done++
	}
	return done
}

// starts tells, for each number of the first bytes of s, how many of the first ones, fewer, stand at their end, too.
func starts(s string) []int {
	shorter := make([]int, len(s)+1)
	for i := 1; i < len(s); i++ {
		shorter[i+1] = longer(s, shorter, shorter[i], s[i])
	}
	return shorter
}

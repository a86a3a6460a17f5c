package find

import (
	"strings"

	"signet/api"
	"signet/dir"
	"signet/inodes"
	"signet/path"
)

// round is one going over all that there is.
type round struct {
	x    *inodes.Inodes
	do   func(api.Found) bool
	into map[int]struct{} // the directories that were gone into
}

// over goes over an inode by its path, and over what hangs beneath it; it tells whether to go on. Nothing is read ahead of the place at which it is needed: where do has enough, a fault behind it is not met.
func (r round) over(s string, inode int) (bool, api.Errno) {
	i, err := r.x.Get(inode)
	if err != api.OK || !r.do(api.Found{Path: s, Info: i}) {
		return false, err
	}
	if _, been := r.into[inode]; been || i.Kind != api.KindDir {
		return true, api.OK
	}
	r.into[inode] = struct{}{}
	l, err := dir.List(r.x, inode)
	if err != api.OK {
		return false, err
	}
	for _, e := range l {
		p := beneath(s, e.Name)
		// All of its parts are names, so that it is no path only where it is too long or too deep.
		if _, _, err := path.Parse(p); err != api.OK {
			continue
		}
		if on, err := r.over(p, e.Inode); !on {
			return false, err
		}
	}
	return true, api.OK
}

// beneath is the one form of a directory's path with a name behind it, however long.
func beneath(s, entry string) string {
	return strings.TrimSuffix(s, slash) + slash + entry
}

// Each does something with all that there is.
func Each(x *inodes.Inodes, do func(api.Found) bool) api.Errno {
	if x == nil || do == nil {
		return api.ErrArg
	}
	r := round{x: x, do: do, into: map[int]struct{}{}}
	_, err := r.over(slash, root)
	return err
}

// All is all that there is.
func All(x *inodes.Inodes) ([]api.Found, api.Errno) {
	var all []api.Found
	err := Each(x, func(f api.Found) bool {
		all = append(all, f)
		return true
	})
	if err != api.OK {
		return nil, err
	}
	return all, api.OK
}

// Paths is the paths of an inode.
func Paths(x *inodes.Inodes, inode int) ([]string, api.Errno) {
	var paths []string
	err := Each(x, func(f api.Found) bool {
		if f.Info.Number == inode {
			paths = append(paths, f.Path)
		}
		return true
	})
	if err != api.OK {
		return nil, err
	}
	return paths, api.OK
}

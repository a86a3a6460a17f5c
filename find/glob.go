package find

import (
	"strings"

	"signet/api"
	"signet/dir"
	"signet/inodes"
)

// Glob is what a path of patterns names.
func Glob(x *inodes.Inodes, s string) ([]api.Found, api.Errno) {
	if x == nil {
		return nil, api.ErrArg
	}
	patterns, err := parts(s)
	if err != api.OK {
		return nil, err
	}
	i, err := x.Get(root)
	if err != api.OK {
		return nil, err
	}
	reached := []api.Found{{Path: slash, Info: i}}
	for _, pattern := range patterns {
		if reached, err = taken(x, reached, pattern); err != api.OK {
			return nil, err
		}
	}
	return reached, api.OK
}

// parts is what stands between the slashes of a path of patterns, empty ones left out.
func parts(s string) ([]string, api.Errno) {
	if len(s) > api.MaxPath {
		return nil, api.ErrLong
	}
	if !strings.HasPrefix(s, slash) {
		return nil, api.ErrPath
	}
	l := strings.FieldsFunc(s, func(r rune) bool { return r == '/' })
	if len(l) > api.MaxDepth {
		return nil, api.ErrDeep
	}
	return l, api.OK
}

// taken is the entries that are taken for a pattern, of all directories that were reached ahead of it.
func taken(x *inodes.Inodes, reached []api.Found, pattern string) ([]api.Found, api.Errno) {
	var next []api.Found
	for _, f := range reached {
		if f.Info.Kind != api.KindDir {
			continue
		}
		l, err := dir.Matches(x, f.Info.Number, pattern)
		if err != api.OK {
			return nil, err
		}
		for _, e := range l {
			if len(next) == api.MaxGlob {
				return nil, api.ErrMany
			}
			i, err := x.Get(e.Inode)
			if err != api.OK {
				return nil, err
			}
			next = append(next, api.Found{Path: beneath(f.Path, e.Name), Info: i})
		}
	}
	return next, api.OK
}

package verify

import (
	"slices"

	"signet/api"
	"signet/digest"
	"signet/name"
	"signet/path"
)

// List is the entries that a text proves a directory to have.
func List(l *digest.Log, s api.Slot, at string, text string) ([]api.Link, api.Errno) {
	p, _, err := path.Parse(at)
	if err != api.OK {
		return nil, err
	}
	return list(l, s, p.Names, text)
}

// list is the entries of the directory that names lead to.
func list(l *digest.Log, s api.Slot, names []string, text string) ([]api.Link, api.Errno) {
	v, err := reach(l, s, names, text)
	if err != api.OK {
		return nil, err
	}
	if v.inode.Kind != api.KindDir {
		return nil, api.ErrDir
	}
	var all []api.Link
	for place := range (v.count() + perLeaf - 1) / perLeaf {
		links, err := v.entries(place)
		if err != api.OK {
			return nil, err
		}
		all = append(all, links...)
	}
	if err := v.end(); err != api.OK {
		return nil, err
	}
	return name.Sorted(all), api.OK
}

// CheckList tells whether a text proves that a directory has these entries, and no others.
func CheckList(l *digest.Log, s api.Slot, at string, links []api.Link, text string) api.Errno {
	all, err := List(l, s, at, text)
	if err != api.OK {
		return err
	}
	if !slices.Equal(all, links) {
		return api.ErrClaim
	}
	return api.OK
}

// CheckMissing tells whether a text proves that there is nothing at a path, by the entries of the directory above it.
func CheckMissing(l *digest.Log, s api.Slot, at string, text string) api.Errno {
	above, last, err := path.Split(at)
	if err != api.OK {
		return err
	}
	all, err := list(l, s, above.Names, text)
	if err != api.OK {
		return err
	}
	if slices.ContainsFunc(all, func(x api.Link) bool { return x.Name == last }) {
		return api.ErrClaim
	}
	return api.OK
}

package mount_test

import (
	"maps"
	"math/rand/v2"
	"slices"
	"strings"

	"signet/api"
	"signet/branch"
	"signet/commit"
	"signet/file"
	"signet/find"
	"signet/inodes"
	"signet/mount"
	"signet/tree"
)

// names is all paths of a system and what is there, without a disk: of a file its bytes, of a directory the text of a slash.
type names map[string]string

// rootAlone is the names of a fresh tree.
func rootAlone() names { return names{"/": "/"} }

// shown is the names that inodes show.
func shown(x *inodes.Inodes) (names, api.Errno) {
	all, err := find.All(x)
	if err != api.OK {
		return nil, err
	}
	f := names{}
	for _, a := range all {
		if f[a.Path] = "/"; a.Info.Kind == api.KindDir {
			continue
		}
		if f[a.Path], err = file.Read(x, a.Info.Number, 0, a.Info.Size); err != api.OK {
			return nil, err
		}
	}
	return f, api.OK
}

// shows asks that a state shows just these names.
func (g rig) shows(what string, s *commit.State, want names) {
	g.t.Helper()
	if f, err := shown(s.Inodes()); !maps.Equal(f, want) || err != api.OK {
		g.t.Fatalf("%s: it shows %d names, %d: %v; want %d: %v", what, len(f), err, slices.Sorted(maps.Keys(f)), len(want), slices.Sorted(maps.Keys(want)))
	}
}

// showsOrTampered asks that what a state shows is the names, or ErrTampered, and tells whether it is the names.
func (g rig) showsOrTampered(what string, s *commit.State, want names) bool {
	g.t.Helper()
	f, err := shown(s.Inodes())
	if err != api.ErrTampered && (err != api.OK || !maps.Equal(f, want)) {
		g.t.Fatalf("%s: it shows %v, %d; want %v", what, slices.Sorted(maps.Keys(f)), err, slices.Sorted(maps.Keys(want)))
	}
	return err == api.OK
}

// draw changes something at random, in the names and in inodes.
func (f names) draw(r *rand.Rand, x *inodes.Inodes, stamp uint64) api.Errno {
	var dirs, files []string
	for _, p := range slices.Sorted(maps.Keys(f)) {
		if f[p] == "/" {
			dirs = append(dirs, p)
		} else {
			files = append(files, p)
		}
	}
	above := dirs[r.IntN(len(dirs))]
	p := strings.TrimSuffix(above, "/") + "/" + string(rune('a'+r.IntN(5)))
	_, there := f[p]
	switch pick := r.IntN(10); {
	case pick < 2 && !there:
		f[p] = "/"
		_, err := branch.Mkdir(x, p, stamp)
		return err
	case pick < 5 && !there:
		f[p] = ""
		_, err := branch.Create(x, p, stamp)
		return err
	case pick == 5 && len(files) > 0:
		from := files[r.IntN(len(files))]
		delete(f, from)
		_, err := branch.Unlink(x, from, stamp, nil)
		return err
	case pick == 6 && len(files) > 0 && !there:
		from := files[r.IntN(len(files))]
		f[p] = f[from]
		delete(f, from)
		_, err := branch.Rename(x, from, p, stamp, nil)
		return err
	case len(files) > 0:
		return f.write(r, x, files[r.IntN(len(files))], stamp)
	}
	return api.OK
}

// write writes something into a file.
func (f names) write(r *rand.Rand, x *inodes.Inodes, p string, stamp uint64) api.Errno {
	at, text := r.IntN(1500), strings.Repeat(string(rune('A'+r.IntN(26))), 1+r.IntN(600))
	old := f[p]
	if len(old) < at+len(text) {
		old += strings.Repeat("\x00", at+len(text)-len(old))
	}
	f[p] = old[:at] + text + old[at+len(text):]
	i, err := find.Lookup(x, p)
	if err != api.OK {
		return err
	}
	_, err = file.Write(x, i.Number, at, text, stamp)
	return err
}

// needed is the blocks that a mount needs: the root block and the map's.
func (g rig) needed() []uint32 {
	g.t.Helper()
	s := g.mount(0)
	l := []uint32{g.slot().Root.At}
	g.ok(tree.Each(s.Cache(), s.Root().Map, func(p api.Pos) bool {
		l = append(l, p.Ref.At)
		return true
	}))
	return l
}

// filled is a system of so many blocks with directories and files of all kinds, committed, and what is there.
func filled(g rig) names {
	g.t.Helper()
	s := g.mount(0)
	f, r := rootAlone(), rand.New(rand.NewPCG(24, 1))
	x := s.Inodes()
	for len(f) < 12 {
		g.ok(f.draw(r, x, s.Stamp()))
	}
	for p, text := range f {
		if text != "/" {
			g.ok(f.write(r, x, p, s.Stamp()))
		}
	}
	left, err := mount.Left(s)
	if left < 0 || err != api.OK {
		g.t.Fatalf("Left = %d, %d", left, err)
	}
	g.ok(s.Commit())
	g.shows("behind a commit", s, f)
	return f
}

package branch_test

import (
	"maps"
	"slices"
	"testing"

	"signet/api"
	"signet/branch"
	"signet/find"
	"signet/inodes"
)

// 22.7 and 22.11: what follows, asked of the inodes themselves.

// follows asks that all in use is found from the root, each file by as many paths as it has Links, each directory by one.
func follows(t *testing.T, what string, x *inodes.Inodes) {
	t.Helper()
	found, err := find.All(x)
	if err != api.OK {
		t.Fatalf("%s: All: %d", what, err)
	}
	paths := map[int]int{}
	for _, f := range found {
		paths[f.Info.Number]++
	}
	all, err := x.All()
	if err != api.OK || !slices.Equal(slices.Sorted(maps.Keys(paths)), all) {
		t.Fatalf("%s: found are %v, in use %v, %d", what, slices.Sorted(maps.Keys(paths)), all, err)
	}
	for _, f := range found {
		if many := paths[f.Info.Number]; many != f.Info.Links || f.Info.Kind == api.KindDir && many != 1 {
			t.Fatalf("%s: %q, %v, is found by %d paths", what, f.Path, f.Info, many)
		}
	}
}

// found is what a path names.
func found(x *inodes.Inodes, s string) answer {
	i, err := find.Lookup(x, s)
	return answer{n: i.Number, err: err}
}

// What was made is found by its path; what was taken away is not.
func TestFoundAndNotFound(t *testing.T) {
	scenes(t, grove(), func(sc *scene) {
		for _, c := range []call{
			{op: "Create", s: "/e/n"}, {op: "Mkdir", s: "/e/m"}, from("Link", "/f", "/e/l"), from("Copy", "/a", "/e/c"), from("Copy", "/f", "/e/d"), from("Rename", "/e/d", "/e/r"), from("Rename", "/a/m", "/e/m"), from("Rename", "/f", "/e/n"),
		} {
			was := found(sc.x, c.old)
			a := sc.does(c)
			now := found(sc.x, c.s)
			if now.err != api.OK || a.err != api.OK {
				t.Fatalf("%s = %v; found is %v", c.brief(), a, now)
			}
			switch c.op {
			case "Create", "Mkdir", "Copy":
				if now.n != a.n {
					t.Errorf("%s = %d; found is %d", c.brief(), a.n, now.n)
				}
			default:
				if now.n != was.n {
					t.Errorf("%s: found is %d; want %d", c.brief(), now.n, was.n)
				}
			}
			if c.op == "Rename" && found(sc.x, c.old).err != api.ErrMissing {
				t.Errorf("%s: the old path is still found", c.brief())
			}
			follows(t, c.brief(), sc.x)
		}
		for _, c := range []call{{op: "Unlink", s: "/e/l"}, {op: "Unlink", s: "/e/r"}, {op: "RemoveAll", s: "/e/c"}, {op: "RemoveAll", s: "/e/m"}, {op: "RemoveAll", s: "/e/n"}, {op: "Rmdir", s: "/e"}} {
			if a := sc.does(c); a.err != api.OK || found(sc.x, c.s).err != api.ErrMissing {
				t.Errorf("%s = %v; it is still found", c.brief(), a)
			}
			follows(t, c.brief(), sc.x)
		}
	})
}

// without is a model's inodes without their stamps and the order of their entries.
func without(m model) model {
	all := model{}
	for n, f := range m {
		f.stamp, f.entries = 0, m.byNames(n)
		all[n] = f
	}
	return all
}

// alike tells whether two models are the same.
func alike(a, b model) bool {
	return maps.EqualFunc(a, b, func(f, g thing) bool {
		return f.kind == g.kind && f.links == g.links && f.stamp == g.stamp && f.bytes == g.bytes && slices.Equal(f.entries, g.entries)
	})
}

// everyPath is the paths of all that a model has, and of places where nothing is.
func everyPath(x *inodes.Inodes) []string {
	l, _ := find.All(x)
	var paths []string
	for _, f := range l {
		paths = append(paths, f.Path)
		if f.Info.Kind == api.KindDir && f.Path != "/" {
			paths = append(paths, f.Path+"/new")
		}
	}
	return append(paths, "/new")
}

// Rename from each path to each other one, and back: where nothing was at the second, all is as before, but for stamps and the places of entries.
func TestRenameThereAndBack(t *testing.T) {
	scenes(t, grove(), func(sc *scene) {
		back := 0
		paths := everyPath(sc.x)
		for _, a := range paths {
			for _, b := range paths {
				sc.apart(func(sc *scene) {
					was := sc.m
					free := found(sc.x, b).err == api.ErrMissing
					if sc.does(from("Rename", a, b)).err != api.OK {
						return
					}
					follows(t, a+" to "+b, sc.x)
					if !free {
						return
					}
					sc.tells(from("Rename", b, a), answer{})
					if !alike(without(sc.m), without(was)) {
						t.Errorf("%q to %q and back: %v; want %v", a, b, sc.m, was)
					}
					back++
				})
			}
		}
		if back < 50 {
			t.Errorf("only %d were moved back", back)
		}
	})
}

// From each path to each other one: a copy is the same as what was copied, what was copied stays, and what RemoveAll takes away again is not found, and nothing else is gone.
func TestCopyAndRemoveAll(t *testing.T) {
	scenes(t, grove(), func(sc *scene) {
		copied := 0
		paths := everyPath(sc.x)
		for _, a := range paths {
			for _, b := range paths {
				sc.apart(func(sc *scene) {
					was := sc.m
					if sc.does(from("Copy", a, b)).err != api.OK {
						return
					}
					copied++
					follows(t, a+" to "+b, sc.x)
					if same, err := branch.Same(sc.x, a, b); !same || err != api.OK {
						t.Errorf("Same(%q, %q) of a copy = %v, %d", a, b, same, err)
					}
					sc.does(call{op: "RemoveAll", s: b})
					if e := found(sc.x, b); e.err != api.ErrMissing || !alike(without(sc.m), without(was)) {
						t.Errorf("behind RemoveAll(%q) it is found: %v; there are %v; want %v", b, e, sc.m, was)
					}
				})
			}
		}
		if copied < 30 {
			t.Errorf("only %d were copied", copied)
		}
	})
}

// Each path taken away: of all others just those are gone that lie beneath it.
func TestRemoveAllOfEachPath(t *testing.T) {
	scenes(t, grove(), func(sc *scene) {
		all, _ := find.All(sc.x)
		for _, f := range all[1:] {
			sc.apart(func(sc *scene) {
				beneath := func(g api.Found) bool {
					return g.Path == f.Path || len(g.Path) > len(f.Path) && g.Path[:len(f.Path)+1] == f.Path+"/"
				}
				many := 0
				var want []string
				for _, g := range all {
					if beneath(g) {
						many++
					} else {
						want = append(want, g.Path)
					}
				}
				sc.tells(call{op: "RemoveAll", s: f.Path}, answer{n: many})
				left, _ := find.All(sc.x)
				var got []string
				for _, g := range left {
					got = append(got, g.Path)
				}
				if !slices.Equal(got, want) {
					t.Errorf("behind RemoveAll(%q) there are %q; want %q", f.Path, got, want)
				}
				follows(t, f.Path, sc.x)
			})
		}
	})
}

package find_test

import (
	"fmt"
	"math"
	"slices"
	"testing"

	"signet/api"
	"signet/dir"
	"signet/find"
	"signet/inodes"
)

// 19.3

// told is what Each is called with, till it was called so many times.
func told(x *inodes.Inodes, most int) ([]api.Found, api.Errno) {
	var l []api.Found
	err := find.Each(x, func(f api.Found) bool {
		l = append(l, f)
		return len(l) != most
	})
	return l, err
}

func TestTheRootAlone(t *testing.T) {
	m := plant()
	bothForms(t, m, func(x *inodes.Inodes) {
		l, err := find.All(x)
		wantPaths(t, "All", l, err, "/")
		if l[0].Info != (api.Info{Number: 1, Kind: api.KindDir, Links: 1, Stamp: 1}) {
			t.Errorf("All tells %v of the root", l[0].Info)
		}
		check(t, x, m, whole()...)
	})
}

// Entries come by their names, byte by byte, each ahead of what hangs beneath it, whatever bytes a slash stands among.
func TestTheOrder(t *testing.T) {
	m := plant("/b/", "/b/z", "/a/", "/a/m", "/b/c/", "/a0", "/b/c/d", "/a-", "/a/B", "/a/b", "/B/", "/b/a", "/é", "/z", "/a!/", "/a!/x", "/10", "/9")
	bothForms(t, m, func(x *inodes.Inodes) {
		l, err := find.All(x)
		wantPaths(t, "All", l, err, "/", "/10", "/9", "/B", "/a", "/a/B", "/a/b", "/a/m", "/a!", "/a!/x", "/a-", "/a0", "/b", "/b/a", "/b/c", "/b/c/d", "/b/z", "/z", "/é")
		check(t, x, m, whole()...)
	})
}

func TestAllKindsOfThings(t *testing.T) {
	m := grove()
	bothForms(t, m, func(x *inodes.Inodes) {
		check(t, x, m, whole()...)
		l, err := find.All(x)
		if len(l) != 1+32 || err != api.OK {
			t.Errorf("All tells %d, %d", len(l), err)
		}
	})
}

func TestFilesWithSeveralNames(t *testing.T) {
	m := plant("/d/", "/d/f", "/z = /d/f", "/a = /d/f", "/d/e/", "/d/e/f = /d/f", "/other")
	bothForms(t, m, func(x *inodes.Inodes) {
		l, err := find.All(x)
		wantPaths(t, "All", l, err, "/", "/a", "/d", "/d/e", "/d/e/f", "/d/f", "/other", "/z")
		for _, i := range []int{1, 4, 5, 7} {
			if l[i].Info != l[1].Info || l[i].Info.Number != 3 || l[i].Info.Links != 4 {
				t.Errorf("All tells %v", l[i])
			}
		}
		tells(t, x, m, answer{lists: `["/a" "/d/e/f" "/d/f" "/z"]`}, call{op: "Paths", n: 3})
		tells(t, x, m, answer{lists: `["/other"]`}, call{op: "Paths", n: 5})
		check(t, x, m, whole()...)
	})
}

// A directory that is met again is told again, and nothing beneath it.
func TestDirectoriesMetTwice(t *testing.T) {
	for _, c := range []struct {
		lines []string
		want  []string
	}{
		{[]string{"/a/", "/a/f", "/b = /a"}, []string{"/", "/a", "/a/f", "/b"}},
		{[]string{"/b/", "/b/f", "/a = /b"}, []string{"/", "/a", "/a/f", "/b"}},
		{[]string{"/a/", "/a/a = /a", "/a/f"}, []string{"/", "/a", "/a/a", "/a/f"}},
		{[]string{"/a/", "/a/up = /", "/z"}, []string{"/", "/a", "/a/up", "/z"}},
		{[]string{"/self = /", "/f"}, []string{"/", "/f", "/self"}},
		{[]string{"/a/", "/a/b/", "/a/b/c/", "/a/b/c/a = /a", "/a/b/c/b = /a/b", "/a/b/c/c = /a/b/c", "/a/b/c/d", "/a/z"}, []string{"/", "/a", "/a/b", "/a/b/c", "/a/b/c/a", "/a/b/c/b", "/a/b/c/c", "/a/b/c/d", "/a/z"}},
		{[]string{"/m/", "/m/f", "/a/", "/a/m = /m", "/z/", "/z/m = /m", "/z/n = /m"}, []string{"/", "/a", "/a/m", "/a/m/f", "/m", "/z", "/z/m", "/z/n"}},
		{[]string{"/a/", "/a/e/", "/a/e/f", "/a/d = /a/e", "/a/d/g"}, []string{"/", "/a", "/a/d", "/a/d/f", "/a/d/g", "/a/e"}},
	} {
		m := plant(c.lines...)
		bothForms(t, m, func(x *inodes.Inodes) {
			l, err := find.All(x)
			wantPaths(t, "All", l, err, c.want...)
			check(t, x, m, whole()...)
		})
	}
}

// Each goes till its function says no, and no further.
func TestEachTillItSaysNo(t *testing.T) {
	m := grove()
	bothForms(t, m, func(x *inodes.Inodes) {
		all, _ := find.All(x)
		for most := 1; most <= len(all)+1; most++ {
			l, err := told(x, most)
			if want := all[:min(most, len(all))]; !slices.Equal(l, want) || err != api.OK {
				t.Errorf("Each till it was called %d times tells %v, %d; want %v", most, l, err, want)
			}
			check(t, x, m, call{op: "Each", n: most})
		}
		if l, err := told(x, 0); !slices.Equal(l, all) || err != api.OK {
			t.Errorf("Each tells %v, %d; want %v", l, err, all)
		}
	})
}

// Each says OK, too, where its function says no at the root, and where it says no at the last.
func TestEachThatSaysNoAtOnce(t *testing.T) {
	for _, m := range []model{plant(), grove()} {
		bothForms(t, m, func(x *inodes.Inodes) {
			calls := 0
			err := find.Each(x, func(f api.Found) bool {
				calls++
				if f.Path != "/" || f.Info.Number != 1 {
					t.Errorf("Each begins with %v", f)
				}
				return false
			})
			if calls != 1 || err != api.OK {
				t.Errorf("Each, which says no at once, is called %d times: %d", calls, err)
			}
		})
	}
}

func TestEachOfNoFunction(t *testing.T) {
	none := plant()
	none.free(1)
	for _, m := range []model{plant(), grove(), none} {
		bothForms(t, m, func(x *inodes.Inodes) {
			if err := find.Each(x, nil); err != api.ErrArg {
				t.Errorf("Each(nil) = %d; want ErrArg", err)
			}
		})
	}
}

// Paths of MaxDepth names are told, those of one more are not, nor what hangs beneath those.
func TestPathsOfMaxDepthNames(t *testing.T) {
	var lines []string
	for many := range 32 {
		lines = append(lines, deep(many+1)+"/", deep(many)+"/0", deep(many)+"/zz")
	}
	m := plant(lines...)
	// What is deeper has no path of its own: it is hung in by its numbers.
	deepest := m.number(deep(32))
	n := len(m.things)
	m.hang(deepest, n+1, "g", thing{kind: api.KindDir, links: 1, stamp: 2})
	m.hang(n+1, n+2, "x", thing{kind: api.KindFile, links: 1, stamp: 2, bytes: "x"})
	m.hang(n+1, n+3, "h", thing{kind: api.KindDir, links: 1, stamp: 2})
	m.hang(deepest, n+4, "file", thing{kind: api.KindFile, links: 1, stamp: 2, bytes: "x"})
	bothForms(t, m, func(x *inodes.Inodes) {
		l, err := find.All(x)
		if len(l) != 1+3*32 || err != api.OK {
			t.Errorf("All tells %d, %d; want %d", len(l), err, 1+3*32)
		}
		if !slices.Contains(paths(l), deep(32)) || slices.ContainsFunc(l, func(f api.Found) bool { return f.Info.Number > n }) {
			t.Errorf("All tells %q", paths(l))
		}
		for i := 1; i <= 4; i++ {
			tells(t, x, m, answer{}, call{op: "Paths", n: n + i})
		}
		check(t, x, m, whole()...)
	})
}

// hang adds an inode to the model, and an entry to a directory.
func (m model) hang(up, n int, s string, f thing) {
	d := m.things[up]
	d.entries = append(d.entries, api.Link{Inode: n, Name: s})
	m.things[up] = d
	m.things[n] = f
}

// wide is directories one in another, whose path has 17 names and 969 bytes.
func wide() (string, []string) {
	s := ""
	var lines []string
	for i := range 17 {
		s += "/" + long(string(rune('a'+i)))
		lines = append(lines, s+"/")
	}
	return s, lines
}

// Paths of MaxPath bytes are told, those of one more are not, nor what hangs beneath those.
func TestPathsOfMaxPathBytes(t *testing.T) {
	s, lines := wide()
	fits, most, over := s+"/"+rep("m", 53), s+"/"+rep("n", 54), s+"/"+rep("o", 55)
	m := plant(append(lines, s+"/zz", fits+"/", s+"/zz2/", s+"/zz2/a", s+"/0")...)
	up := m.number(s)
	// With a slash behind it this path would be too long.
	m.hang(up, len(m.things)+1, rep("n", 54), thing{kind: api.KindDir, links: 1, stamp: 2})
	n := len(m.things)
	m.hang(up, n+1, rep("o", 55), thing{kind: api.KindDir, links: 1, stamp: 2})
	m.hang(up, n+2, rep("p", 56), thing{kind: api.KindFile, links: 1, stamp: 2})
	m.hang(n+1, n+3, "x", thing{kind: api.KindFile, links: 1, stamp: 2})
	m.hang(m.number(most), n+4, "x", thing{kind: api.KindDir, links: 1, stamp: 2})
	m.hang(m.number(fits), n+5, "y", thing{kind: api.KindDir, links: 1, stamp: 2})
	m.hang(n+4, n+6, "y", thing{kind: api.KindFile, links: 1, stamp: 2})
	bothForms(t, m, func(x *inodes.Inodes) {
		l, err := find.All(x)
		want := []string{s + "/0", fits, most, s + "/zz", s + "/zz2", s + "/zz2/a"}
		if len(l) != 18+len(want) || !slices.Equal(paths(l)[18:], want) || err != api.OK {
			t.Errorf("All tells %d, %q, %d", len(l), paths(l), err)
		}
		if longest := slices.MaxFunc(paths(l), func(a, b string) int { return len(a) - len(b) }); len(longest) != 1024 || longest != most {
			t.Errorf("the longest path has %d bytes", len(longest))
		}
		if slices.Contains(paths(l), over) {
			t.Error("a path of 1025 bytes is told")
		}
		for i := 1; i <= 6; i++ {
			tells(t, x, m, answer{}, call{op: "Paths", n: n + i})
		}
		check(t, x, m, whole()...)
	})
}

// A directory that was passed over was not gone into: where it is met again by a path that may be, all beneath it is told.
func TestPassedOverAndMetAgain(t *testing.T) {
	s, lines := wide()
	m := plant(append(lines, "/z/", "/z/f", "/z/d/", "/z/d/g")...)
	m.hang(m.number(s), m.number("/z"), rep("o", 55), m.things[m.number("/z")])
	bothForms(t, m, func(x *inodes.Inodes) {
		l, err := find.All(x)
		if !slices.Equal(paths(l)[18:], []string{"/z", "/z/d", "/z/d/g", "/z/f"}) || err != api.OK {
			t.Errorf("All tells %q, %d", paths(l), err)
		}
		check(t, x, m, whole()...)
	})
}

// The same where it was too deep: at 33 names it was passed over, at 32 it was gone into.
func TestTooDeepAndMetAgain(t *testing.T) {
	for many, want := range map[int][]string{31: {"/z"}, 32: {"/z", "/z/f"}} {
		lines := []string{"/z/", "/z/f"}
		for i := range many {
			lines = append(lines, deep(i+1)+"/")
		}
		m := plant(lines...)
		m.hang(m.number(deep(many)), 2, "~", m.things[2])
		bothForms(t, m, func(x *inodes.Inodes) {
			l, err := find.All(x)
			if got := paths(l)[len(l)-len(want):]; !slices.Equal(got, want) || len(l) != 33+len(want) || err != api.OK {
				t.Errorf("All tells %d, the last %q, %d; want %q", len(l), got, err, want)
			}
			check(t, x, m, whole()...)
		})
	}
}

// A directory whose entries were all passed over was gone into, all the same.
func TestGoneIntoInVain(t *testing.T) {
	s, lines := wide()
	m := plant(append(lines, "/z/", "/z/"+long("f"))...)
	m.hang(m.number(s), m.number("/z"), rep("n", 54), m.things[m.number("/z")])
	bothForms(t, m, func(x *inodes.Inodes) {
		l, err := find.All(x)
		if !slices.Equal(paths(l)[18:], []string{s + "/" + rep("n", 54), "/z"}) || err != api.OK {
			t.Errorf("All tells %q, %d", paths(l), err)
		}
		check(t, x, m, whole()...)
	})
}

func TestPaths(t *testing.T) {
	m := grove()
	bothForms(t, m, func(x *inodes.Inodes) {
		tells(t, x, m, answer{lists: `["/"]`}, call{op: "Paths", n: 1})
		tells(t, x, m, answer{lists: `["/0" "/d/c/more/f" "/d/e/again" "/f"]`}, call{op: "Paths", n: 13})
		for n := range len(m.things) + 3 {
			check(t, x, m, call{op: "Paths", n: n})
		}
		for _, n := range []int{0, -1, len(m.things) + 1, api.MaxInodes, api.MaxInodes + 1, math.MaxInt, math.MinInt} {
			tells(t, x, m, answer{}, call{op: "Paths", n: n})
		}
	})
}

// An inode in use that no entry names is nowhere; the root is where entries name it, too.
func TestPathsOfWhatIsNowhere(t *testing.T) {
	m := plant("/a/", "/a/up = /", "/root = /")
	m.things[3] = thing{kind: api.KindDir, links: 1, stamp: 3}
	m.hang(3, 4, "f", thing{kind: api.KindFile, links: 1, stamp: 4})
	bothForms(t, m, func(x *inodes.Inodes) {
		tells(t, x, m, answer{lists: `["/" "/a/up" "/root"]`}, call{op: "Paths", n: 1})
		tells(t, x, m, answer{}, call{op: "Paths", n: 3}, call{op: "Paths", n: 4})
		check(t, x, m, whole()...)
	})
}

// An entry of an inode that is not in use is told as an error, behind what was gone over.
func TestEachOfNothing(t *testing.T) {
	m := plant("/d/", "/d/a", "/d/gone = 9", "/d/z", "/y")
	bothForms(t, m, func(x *inodes.Inodes) {
		fails(t, x, m, api.ErrNone, call{op: "All"}, call{op: "Paths", n: 1}, call{op: "Paths", n: 3}, call{op: "Paths", n: 9}, call{op: "Paths", n: 77})
		l, err := told(x, 0)
		if !slices.Equal(paths(l), []string{"/", "/d", "/d/a"}) || err != api.ErrNone {
			t.Errorf("Each tells %q, %d", paths(l), err)
		}
		l, err = told(x, 3)
		wantPaths(t, "Each that says no ahead of it", l, err, "/", "/d", "/d/a")
	})
}

func TestEachWithoutARoot(t *testing.T) {
	none, file := plant(), plant()
	none.free(1)
	file.things[1] = thing{kind: api.KindFile, links: 1, stamp: 1, bytes: "a"}
	bothForms(t, none, func(x *inodes.Inodes) {
		fails(t, x, none, api.ErrNone, whole()...)
		if l, err := told(x, 0); len(l) != 0 || err != api.ErrNone {
			t.Errorf("Each without a root tells %v, %d", l, err)
		}
	})
	bothForms(t, file, func(x *inodes.Inodes) {
		l, err := find.All(x)
		wantPaths(t, "All", l, err, "/")
		check(t, x, file, whole()...)
	})
}

// A great directory, and as many directories as there are inodes.
func TestManyThings(t *testing.T) {
	m := plant()
	for n := 2; n <= api.MaxInodes; n++ {
		up := 1
		if n > 1000 {
			up = 2 + n%700
		}
		kind := api.KindFile
		if n < 900 {
			kind = api.KindDir
		}
		m.hang(up, n, fmt.Sprint("n", n*7919%5003), thing{kind: kind, links: 1, stamp: uint64(n)})
	}
	x := made(t, 16, 8).laid(m)
	check(t, x, m, call{op: "All"}, call{op: "Paths", n: api.MaxInodes}, call{op: "Each", n: 4000}, call{op: "Glob", s: "/*/*9"}, call{op: "Glob", s: "/n1*/n?1*"})
	if l, err := find.All(x); len(l) != api.MaxInodes || err != api.OK {
		t.Errorf("All tells %d, %d", len(l), err)
	}
}

// A function that changes the inodes as it is called: Each ends all the same.
func TestEachThatChangesTheInodes(t *testing.T) {
	x := made(t, 16, 8).laid(plant("/a/", "/b/"))
	calls := 0
	err := find.Each(x, func(f api.Found) bool {
		calls++
		if f.Info.Kind != api.KindDir {
			return true
		}
		for i := range 3 {
			if n, err := x.Make(api.KindDir, 2); err == api.OK {
				dir.Add(x, f.Info.Number, api.Link{Inode: n, Name: fmt.Sprint("more", i)}, 2)
			}
		}
		return true
	})
	if calls < 3 || err != api.OK {
		t.Errorf("Each called its function %d times: %d", calls, err)
	}
	err = find.Each(x, func(f api.Found) bool {
		x.Drop(f.Info.Number)
		return true
	})
	if err != api.ErrNone {
		t.Errorf("Each, with its directories dropped as they are told = %d; want ErrNone", err)
	}
}

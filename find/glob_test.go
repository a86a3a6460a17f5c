package find_test

import (
	"fmt"
	"slices"
	"strings"
	"testing"

	"signet/api"
	"signet/find"
	"signet/inodes"
)

// 19.5

// glob asks that a path of patterns reaches just these paths.
func glob(t *testing.T, x *inodes.Inodes, m model, s string, want ...string) {
	t.Helper()
	l, err := find.Glob(x, s)
	wantPaths(t, fmt.Sprintf("Glob(%q)", short(s)), l, err, want...)
	check(t, x, m, call{op: "Glob", s: s})
}

func TestGlobOfTheRoot(t *testing.T) {
	for _, m := range []model{plant(), grove(), plant("/a = /")} {
		bothForms(t, m, func(x *inodes.Inodes) {
			for _, s := range []string{"/", "//", "///", rep("/", 1024)} {
				glob(t, x, m, s, "/")
			}
		})
	}
}

func TestGlob(t *testing.T) {
	m := plant("/d/", "/b/", "/d/y", "/d/x", "/a", "/d/e/", "/b/x/", "/d/e/x", "/d/e/xy", "/b/x/z/", "/ab", "/b/xx", "/c = /b")
	bothForms(t, m, func(x *inodes.Inodes) {
		glob(t, x, m, "/*", "/a", "/ab", "/b", "/c", "/d")
		glob(t, x, m, "/d", "/d")
		glob(t, x, m, "/?", "/a", "/b", "/c", "/d")
		glob(t, x, m, "/??", "/ab")
		glob(t, x, m, "/a*", "/a", "/ab")
		glob(t, x, m, "/*b", "/ab", "/b")
		glob(t, x, m, "/***", "/a", "/ab", "/b", "/c", "/d")
		glob(t, x, m, "/*?*?*", "/ab")
		glob(t, x, m, "/x")
		glob(t, x, m, "/x/*")
		glob(t, x, m, "/d/*", "/d/e", "/d/x", "/d/y")
		glob(t, x, m, "/b/*", "/b/x", "/b/xx")
		glob(t, x, m, "/d/*/*", "/d/e/x", "/d/e/xy")
		glob(t, x, m, "/?/x*", "/b/x", "/b/xx", "/c/x", "/c/xx", "/d/x")
		glob(t, x, m, "/*/*/z", "/b/x/z", "/c/x/z")
		glob(t, x, m, "/*/*/*/*")
	})
}

// Entries of one name are met by their inodes.
func TestGlobOfOneNameTwice(t *testing.T) {
	m := plant("/b/", "/b/z", "/a")
	m.things[1] = thing{kind: api.KindDir, links: 1, stamp: 1, entries: []api.Link{{Inode: 2, Name: "b"}, {Inode: 4, Name: "a"}, {Inode: 2, Name: "a"}}}
	x := made(t, 64, 8).laid(m)
	l, err := find.Glob(x, "/*")
	wantPaths(t, "Glob", l, err, "/a", "/a", "/b")
	if l[0].Info.Number != 2 || l[1].Info.Number != 4 {
		t.Errorf("Glob tells %v", l)
	}
}

// Texts that are refused: which error comes first where two may be.
func TestGlobOfWrongTexts(t *testing.T) {
	m := grove()
	bothForms(t, m, func(x *inodes.Inodes) {
		fails(t, x, m, api.ErrPath, of("Glob", "", "a", "d/e", "*", ".", "..", " /", "\x00", "?/", rep("a", 1024), rep("a/", 512), rep("*/", 40), "\\", "∕d")...)
		fails(t, x, m, api.ErrLong, of("Glob", rep("/", 1025), rep("a", 1025), rep("/*", 513), rep("*/", 513), "/"+rep("*", 1024), "/d"+rep("/", 1023), rep("/", 1024)+"d", rep("\x00", 100000))...)
		fails(t, x, m, api.ErrDeep, of("Glob", rep("/*", 33), rep("/*", 512), rep("/missing", 33), rep("/.", 33), rep("/..", 33), rep("//d", 33)+"/", rep("/\x00", 34), deep(33))...)
	})
}

func TestGlobOfMaxPathBytes(t *testing.T) {
	m := grove()
	bothForms(t, m, func(x *inodes.Inodes) {
		slashes := rep("/", 1022)
		glob(t, x, m, slashes+"/d", "/d")
		glob(t, x, m, slashes+"d/", "/d")
		glob(t, x, m, "/d"+rep("/", 1020)+"/z", "/d/z")
		glob(t, x, m, "/d/"+rep("*", 1020)+"z", "/d/z")
		glob(t, x, m, "/"+rep("a", 1023))
		fails(t, x, m, api.ErrLong, of("Glob", slashes+"//d", slashes+"/d/", slashes+"d//", "/d/"+rep("*", 1021)+"z")...)
	})
}

func TestGlobOfMaxDepthParts(t *testing.T) {
	m := plant("/a = /", "/b")
	bothForms(t, m, func(x *inodes.Inodes) {
		glob(t, x, m, rep("/a", 32), rep("/a", 32))
		glob(t, x, m, rep("/a", 31)+"/*", rep("/a", 31)+"/a", rep("/a", 31)+"/b")
		glob(t, x, m, rep("//?", 31)+"/b//", rep("/a", 31)+"/b")
		glob(t, x, m, rep("/missing", 32))
		fails(t, x, m, api.ErrDeep, of("Glob", rep("/a", 33), rep("/a", 32)+"/b", rep("/b", 33), rep("/a", 32)+"/.")...)
	})
}

func TestGlobOfEmptyParts(t *testing.T) {
	m := grove()
	bothForms(t, m, func(x *inodes.Inodes) {
		for _, s := range []string{"/d/e/f", "//d/e/f", "/d//e/f", "/d/e/f/", "///d///e///f///", "/d/e//f//"} {
			glob(t, x, m, s, "/d/e/f")
		}
		// A slash at the end asks for nothing.
		glob(t, x, m, "/f/", "/f")
		glob(t, x, m, "/f//", "/f")
		glob(t, x, m, "/d/", "/d")
	})
}

// A stop and two stops are patterns as any other, which no name is.
func TestGlobOfStops(t *testing.T) {
	m := grove()
	bothForms(t, m, func(x *inodes.Inodes) {
		for _, s := range []string{"/.", "/..", "/./d", "/../d", "/d/.", "/d/..", "/d/./e", "/d/../d", "/./.", "/.a/.", "/f/.", "/f/.."} {
			glob(t, x, m, s)
		}
		glob(t, x, m, "/...", "/...")
		glob(t, x, m, "/.*", "/...", "/.a")
		glob(t, x, m, "/..*", "/...")
		glob(t, x, m, "/.?", "/.a")
		glob(t, x, m, "/.*/..?", "/.a/..b")
	})
}

// Of a file there are no entries, whatever the part.
func TestGlobBeneathAFile(t *testing.T) {
	m := grove()
	bothForms(t, m, func(x *inodes.Inodes) {
		for _, s := range []string{"/f/*", "/f/a", "/f/f", "/f/*/*", "/d/z/*", "/d/e/f/*", "/f/?", "/f/\x00", "/empty/*"} {
			glob(t, x, m, s)
		}
		glob(t, x, m, "/*/e", "/d/e")
		glob(t, x, m, "/*/*/f", "/d/e/f")
	})
}

// Patterns of texts that are no names are no error: they take none, or those that they match.
func TestGlobOfPatternsThatAreNoNames(t *testing.T) {
	m := grove()
	bothForms(t, m, func(x *inodes.Inodes) {
		for _, s := range noNames {
			if !strings.Contains(s, "/") && s != "" && len(s) < 1000 {
				glob(t, x, m, "/"+s)
				glob(t, x, m, "/d/"+s+"/e")
			}
		}
		glob(t, x, m, "/"+rep("*", 57)+"f", "/f")
		glob(t, x, m, "/"+rep("?", 56)+"*", "/"+long("n"))
		glob(t, x, m, "/"+rep("?", 57))
		glob(t, x, m, "/\xff?", "/\xff\xfe")
		glob(t, x, m, "/?\xfe", "/\xff\xfe")
		glob(t, x, m, "/??", "/.a", "/a*", "/a?", "/é", "/\xff\xfe")
		glob(t, x, m, "/a*", "/a*", "/a?")
		glob(t, x, m, "/a?", "/a*", "/a?")
		glob(t, x, m, "/é/名*", "/é/名前")
	})
}

// A directory that is reached again is gone through again.
func TestGlobThroughDirectoriesAgain(t *testing.T) {
	m := plant("/a/", "/a/a = /a", "/a/f", "/b = /a", "/a/up = /")
	bothForms(t, m, func(x *inodes.Inodes) {
		glob(t, x, m, "/*/*", "/a/a", "/a/f", "/a/up", "/b/a", "/b/f", "/b/up")
		glob(t, x, m, "/*/*/f", "/a/a/f", "/b/a/f")
		glob(t, x, m, "/a/a/a/a/a/f", "/a/a/a/a/a/f")
		glob(t, x, m, "/*/up/*", "/a/up/a", "/a/up/b", "/b/up/a", "/b/up/b")
		glob(t, x, m, "/b/up/b/up/b/?", "/b/up/b/up/b/a", "/b/up/b/up/b/f")
	})
}

// A path that is reached may be longer than MaxPath: no entry is passed over here.
func TestGlobReachesLongPaths(t *testing.T) {
	m := plant()
	m.hang(1, 1, long("a"), m.things[1])
	m.hang(1, 2, long("f"), thing{kind: api.KindFile, links: 1, stamp: 2})
	d := m.things[1]
	d.entries = []api.Link{{Inode: 2, Name: long("f")}, {Inode: 1, Name: long("a")}}
	m.things[1] = d
	bothForms(t, m, func(x *inodes.Inodes) {
		up := rep("/"+long("a"), 17)
		glob(t, x, m, rep("/a*", 17)+"/*", up+"/"+long("a"), up+"/"+long("f"))
		glob(t, x, m, rep("/a*", 31)+"/f*", rep("/"+long("a"), 31)+"/"+long("f"))
	})
}

// crowd is a root with so many entries of one inode, which is a file or an empty directory.
func crowd(many, kind int) model {
	m := plant()
	d := m.things[1]
	for i := range many {
		d.entries = append(d.entries, api.Link{Inode: 2, Name: fmt.Sprintf("e%05d", i*7919%100000)})
	}
	m.things[1] = d
	m.things[2] = thing{kind: kind, links: 1, stamp: 2}
	return m
}

// MaxGlob entries may be taken for a part, and not one more. Those that are not taken do not count.
func TestGlobOfMaxGlobEntries(t *testing.T) {
	for _, kind := range []int{api.KindFile, api.KindDir} {
		m := crowd(4096, kind)
		bothForms(t, m, func(x *inodes.Inodes) {
			if l, err := find.Glob(x, "/*"); len(l) != 4096 || err != api.OK {
				t.Errorf("Glob of 4096 entries tells %d, %d", len(l), err)
			}
			check(t, x, m, of("Glob", "/*", "/e*", "/*/*", "/*/*/*", "/e0*")...)
		})
		m = crowd(4097, kind)
		bothForms(t, m, func(x *inodes.Inodes) {
			fails(t, x, m, api.ErrMany, of("Glob", "/*", "/e*", "/*/*", "/*/missing", "/?*/a/b")...)
			check(t, x, m, of("Glob", "/e0*", "/*0", "/e00001", "/missing", "/missing/*", "/*9/*")...)
		})
	}
	m := crowd(16384, api.KindFile)
	x := made(t, 16, 8).laid(m)
	fails(t, x, m, api.ErrMany, of("Glob", "/*", "/*/*")...)
	check(t, x, m, of("Glob", "/e0*", "/*77", "/")...)
}

// The entries that are taken for one part are counted over all directories that were reached.
func TestGlobCountsAPartOverDirectories(t *testing.T) {
	for _, c := range []struct {
		dirs, entries int
		more          int
		want          api.Errno
	}{{64, 64, 0, api.OK}, {64, 64, 1, api.ErrMany}, {2, 2048, 0, api.OK}, {2, 2048, 1, api.ErrMany}, {4096, 1, 0, api.OK}, {1, 4096, 0, api.OK}, {1, 4096, 1, api.ErrMany}, {63, 65, 1, api.OK}, {63, 65, 2, api.ErrMany}} {
		m := plant("/d/", "/d/f", "/d/e/")
		// All names of the directory but those that are more are names of one directory, which has the entries.
		d := m.things[2]
		for i := range c.dirs {
			d.entries = append(d.entries, api.Link{Inode: 4, Name: fmt.Sprintf("n%05d", i)})
		}
		m.things[2] = d
		for i := range c.entries {
			m.hang(4, 3, fmt.Sprint("e", i), m.things[3])
		}
		m.hang(2, 5, "nmore", thing{kind: api.KindDir, links: 1, stamp: 5})
		for i := range c.more {
			m.hang(5, 3, fmt.Sprint("e", i), m.things[3])
		}
		x := made(t, 16, 8).laid(m)
		if c.dirs == 4096 {
			fails(t, x, m, api.ErrMany, of("Glob", "/d/n*", "/d/n*/*")...)
		}
		l, err := find.Glob(x, "/d/n[0]*/*")
		wantPaths(t, "Glob of a bracket, which stands for itself,", l, err)
		if l, err = find.Glob(x, "/d/n0*/*"); len(l) != c.dirs*c.entries || err != api.OK {
			t.Errorf("Glob of %d directories of %d entries each tells %d, %d", c.dirs, c.entries, len(l), err)
		}
		if c.dirs < 4096 {
			l, err = find.Glob(x, "/d/n*/*")
			if err != c.want || err == api.OK && len(l) != c.dirs*c.entries+c.more || err != api.OK && len(l) != 0 {
				t.Errorf("Glob of %d directories of %d entries each, and %d more, tells %d, %d; want %d", c.dirs, c.entries, c.more, len(l), err, c.want)
			}
			check(t, x, m, of("Glob", "/d/n*/*", "/d/n*/e1*", "/*/*/*")...)
		}
	}
}

// Each part has a count of its own: twelve times twice as many are 4096, thirteen times more.
func TestGlobCountsPartsApart(t *testing.T) {
	m := plant("/a = /", "/b = /", "/f")
	bothForms(t, m, func(x *inodes.Inodes) {
		for parts := range 9 {
			check(t, x, m, call{op: "Glob", s: rep("/?", parts)})
		}
	})
	m = plant("/aa = /", "/ab = /", "/f")
	bothForms(t, m, func(x *inodes.Inodes) {
		if l, err := find.Glob(x, rep("/a?", 12)); len(l) != 4096 || err != api.OK {
			t.Errorf("Glob of twelve parts, each of which takes two, tells %d, %d", len(l), err)
		}
		check(t, x, m, of("Glob", rep("/a?", 12), rep("/a?", 12)+"/f", rep("/a?", 12)+"/aa", rep("/a?", 12)+rep("/aa", 20), rep("/aa", 20)+rep("/a?", 12), rep("/a?", 12)+"/x")...)
		fails(t, x, m, api.ErrMany, of("Glob", rep("/a?", 13), rep("/a?", 13)+"/x", rep("/a?", 32), rep("/*", 32), rep("/aa", 10)+rep("/a?", 13), rep("/a?", 12)+"/*")...)
	})
}

func TestGlobOfNothing(t *testing.T) {
	m := plant("/d/", "/d/gone = 9", "/d/z", "/y", "/gone/", "/gone/a = 4096")
	bothForms(t, m, func(x *inodes.Inodes) {
		fails(t, x, m, api.ErrNone, of("Glob", "/d/*", "/d/gone", "/d/gone/a", "/*/*", "/gone/*", "/gone/a/b", "/*/gone/*")...)
		glob(t, x, m, "/d/z*", "/d/z")
		glob(t, x, m, "/d/y*")
		glob(t, x, m, "/*", "/d", "/gone", "/y")
	})
}

func TestGlobWithoutARoot(t *testing.T) {
	none, file := plant(), plant()
	none.free(1)
	file.things[1] = thing{kind: api.KindFile, links: 1, stamp: 1, bytes: "a"}
	bothForms(t, none, func(x *inodes.Inodes) {
		fails(t, x, none, api.ErrNone, of("Glob", "/", "/*", "/a/b", "//")...)
		fails(t, x, none, api.ErrPath, of("Glob", "", "a")...)
		fails(t, x, none, api.ErrLong, of("Glob", rep("/", 1025))...)
		fails(t, x, none, api.ErrDeep, of("Glob", rep("/a", 33))...)
	})
	bothForms(t, file, func(x *inodes.Inodes) {
		glob(t, x, file, "/", "/")
		glob(t, x, file, "/*")
		glob(t, x, file, "/a/b")
	})
}

// Without stars and question marks it is what Lookup tells, where that is something, and by no stops.
func TestGlobIsLookup(t *testing.T) {
	m := grove()
	bothForms(t, m, func(x *inodes.Inodes) {
		for _, s := range []string{"/", "/d", "/d/e/f", "/f", "/missing", "/f/a", "/d/missing/a", "/é/名前", "/\xff\xfe", "/d//e"} {
			l, err := find.Glob(x, s)
			i, missing := find.Lookup(x, s)
			if err != api.OK || missing != api.OK && len(l) != 0 || missing == api.OK && (len(l) != 1 || l[0].Info != i) {
				t.Errorf("Glob(%q) = %v, %d, but Lookup = %v, %d", s, l, err, i, missing)
			}
		}
		if l, _ := find.Glob(x, "/f"); !slices.Equal(paths(l), []string{"/f"}) {
			t.Errorf("Glob(/f) = %v", l)
		}
	})
}

package find_test

import (
	"slices"
	"strings"
	"testing"

	"signet/api"
	"signet/find"
	"signet/inodes"
)

// 19.1

// noNames is texts that are no names.
var noNames = []string{"", ".", "..", "/", "a/b", "/a", "a/", "\x00", "a\x00", "\x00a", rep("n", 57), rep("n", 5000), rep("é", 29)}

// grove is a tree with all kinds of things: directories of several leaves and empty ones, a file with several names, names of all kinds.
func grove() model {
	return plant(
		"/d/", "/d/e/", "/d/e/f", "/d/z", "/d/a", "/d/m/", "/d/y", "/d/q", "/d/b", "/d/c/", "/d/c/x",
		"/f", "/empty/", "/...", "/.a/", "/.a/..b", "/"+long("n")+"/", "/"+long("n")+"/"+long("m"),
		"/d/e/again = /f", "/0 = /f", "/d/c/more/", "/d/c/more/f = /f", "/\xff\xfe", "/é/", "/é/名前", "/a*", "/a?", "/ ", "/\\", "/b/", "/b/d/", "/b/d/e",
	)
}

func TestWalkOfNoNames(t *testing.T) {
	for _, m := range []model{grove(), plant(), plant("/a")} {
		bothForms(t, m, func(x *inodes.Inodes) {
			for _, names := range [][]string{nil, {}} {
				tells(t, x, m, answer{inode: 1}, call{op: "Walk", names: names})
				tells(t, x, m, answer{lists: "[1] []"}, call{op: "Chain", names: names})
			}
		})
	}
}

// All that is there is walked to, entry by entry.
func TestWalkToAll(t *testing.T) {
	m := grove()
	bothForms(t, m, func(x *inodes.Inodes) {
		all, _ := m.all(never)
		for _, f := range all[1:] {
			names := strings.Split(f.Path[1:], "/")
			n, err := find.Walk(x, names)
			if n != f.Info.Number || err != api.OK {
				t.Errorf("Walk(%q) = %d, %d; want %d", names, n, err, f.Info.Number)
			}
			way, places, err := find.Chain(x, names)
			if len(way) != len(names)+1 || len(places) != len(names) || way[0] != 1 || way[len(names)] != f.Info.Number || err != api.OK {
				t.Fatalf("Chain(%q) = %v, %v, %d", names, way, places, err)
			}
			for i, s := range names {
				if e := m.things[way[i]].entries[places[i]]; e.Name != s || e.Inode != way[i+1] {
					t.Errorf("Chain(%q) = %v, %v: at the place %d is %v", names, way, places, places[i], e)
				}
			}
			check(t, x, m, walks(names...)...)
		}
	})
}

func TestChainTellsInodesAndPlaces(t *testing.T) {
	m := grove()
	bothForms(t, m, func(x *inodes.Inodes) {
		tells(t, x, m, answer{inode: 4}, call{op: "Walk", names: []string{"d", "e", "f"}})
		tells(t, x, m, answer{lists: "[1 2 3 4] [0 0 0]"}, call{op: "Chain", names: []string{"d", "e", "f"}})
		tells(t, x, m, answer{lists: "[1 2 11 12] [0 7 0]"}, call{op: "Chain", names: []string{"d", "c", "x"}})
		tells(t, x, m, answer{lists: "[1 2 11 20 13] [0 7 1 0]"}, call{op: "Chain", names: []string{"d", "c", "more", "f"}})
	})
}

// A text that is no name is told ahead of all that is wrong on the way, wherever it stands.
func TestWalkOfTextsThatAreNoNames(t *testing.T) {
	m := grove()
	bothForms(t, m, func(x *inodes.Inodes) {
		for _, s := range noNames {
			var l []call
			for _, names := range [][]string{{s}, {s, "d"}, {s, "missing"}, {"d", s}, {"d", s, "e"}, {"d", "e", s}, {"d", "e", "f", s}, {"missing", s}, {"missing", s, "e"}, {"d", "missing", "e", s}, {"f", s}, {"f", "a", s}, {"d", "e", "f", "g", s, "h"}, {"d", s, s}, {"d", s, "missing", "x"}} {
				l = append(l, walks(names...)...)
			}
			fails(t, x, m, api.ErrName, l...)
		}
	})
}

func TestWalkThroughAFile(t *testing.T) {
	m := grove()
	bothForms(t, m, func(x *inodes.Inodes) {
		fails(t, x, m, api.ErrDir, slices.Concat(walks("f", "a"), walks("f", "f"), walks("f", "a", "b", "c"), walks("d", "e", "f", "g"), walks("d", "z", "e", "f"), walks("0", "d"))...)
		tells(t, x, m, answer{inode: 13}, call{op: "Walk", names: []string{"f"}})
		tells(t, x, m, answer{lists: "[1 13] [1]"}, call{op: "Chain", names: []string{"f"}})
		tells(t, x, m, answer{inode: 13}, call{op: "Walk", names: []string{"d", "e", "again"}})
	})
}

func TestWalkOfMissingNames(t *testing.T) {
	m := grove()
	bothForms(t, m, func(x *inodes.Inodes) {
		fails(t, x, m, api.ErrMissing, slices.Concat(walks("x"), walks("D"), walks("dd"), walks("d "), walks("x", "y"), walks("d", "x"), walks("d", "x", "f"), walks("d", "e", "x"), walks("empty", "a"), walks("empty", "empty"), walks("*"), walks("?"), walks("d", "*"), walks(rep("n", 56)), walks("\xff"), walks("e\u0301"), walks("d", "missing", "f", "a"))...)
		// Of a missing name and a file the one that is met first is told.
		fails(t, x, m, api.ErrMissing, walks("missing", "f", "a")...)
		fails(t, x, m, api.ErrDir, walks("f", "a", "missing")...)
	})
}

// Names stand for themselves: a star and a question mark are letters as any other.
func TestWalkByBytesAlone(t *testing.T) {
	m := grove()
	bothForms(t, m, func(x *inodes.Inodes) {
		for _, names := range [][]string{{"a*"}, {"a?"}, {"..."}, {".a"}, {".a", "..b"}, {long("n"), long("m")}, {"\xff\xfe"}, {"é", "名前"}, {" "}, {"\\"}} {
			if c := (call{op: "Walk", names: names}); c.do(x).err != api.OK {
				t.Errorf("%s = %s", c.brief(), c.do(x).brief())
			}
			check(t, x, m, walks(names...)...)
		}
	})
}

// There is no limit to how many names are walked: a directory that is in itself has no end.
func TestWalkAsFarAsOneLikes(t *testing.T) {
	m := plant("/d/", "/d/f", "/d/d = /d", "/d/up = /")
	bothForms(t, m, func(x *inodes.Inodes) {
		for _, many := range []int{1, 31, 32, 33, 34, 1000} {
			names := slices.Repeat([]string{"d"}, many)
			tells(t, x, m, answer{inode: 2}, call{op: "Walk", names: names})
			tells(t, x, m, answer{inode: 3}, call{op: "Walk", names: append(names, "f")})
			tells(t, x, m, answer{inode: 1}, call{op: "Walk", names: append(names, "up")})
			check(t, x, m, walks(names...)...)
			way, places, err := find.Chain(x, names)
			if len(way) != many+1 || len(places) != many || err != api.OK {
				t.Errorf("Chain of %d names has %d inodes and %d places, %d", many, len(way), len(places), err)
			}
			fails(t, x, m, api.ErrMissing, walks(append(names, "e")...)...)
			fails(t, x, m, api.ErrDir, walks(append(names, "f", "f")...)...)
			fails(t, x, m, api.ErrName, walks(append(names, "f", "f", "")...)...)
		}
	})
}

// An entry may name an inode that is not in use: it is reached, but nothing beneath it.
func TestWalkToNothing(t *testing.T) {
	m := plant("/d/", "/d/gone = 9", "/gone = 4096", "/d/f", "/d/far = 5")
	bothForms(t, m, func(x *inodes.Inodes) {
		tells(t, x, m, answer{inode: 9}, call{op: "Walk", names: []string{"d", "gone"}})
		tells(t, x, m, answer{lists: "[1 2 9] [0 0]"}, call{op: "Chain", names: []string{"d", "gone"}})
		tells(t, x, m, answer{inode: 4096}, call{op: "Walk", names: []string{"gone"}})
		fails(t, x, m, api.ErrNone, slices.Concat(walks("d", "gone", "a"), walks("gone", "a"), walks("gone", "a", "b"))...)
		fails(t, x, m, api.ErrName, slices.Concat(walks("gone", ""), walks("gone", "a", "."))...)
	})
}

// Where there is no root, and where it is a file, no names still reach it.
func TestWalkWithoutARoot(t *testing.T) {
	none, file := plant(), plant()
	none.free(1)
	file.things[1] = thing{kind: api.KindFile, links: 1, stamp: 1, bytes: "a"}
	bothForms(t, none, func(x *inodes.Inodes) {
		tells(t, x, none, answer{inode: 1}, call{op: "Walk"})
		tells(t, x, none, answer{lists: "[1] []"}, call{op: "Chain"})
		fails(t, x, none, api.ErrNone, append(walks("a"), walks("a", "b")...)...)
		fails(t, x, none, api.ErrName, walks("a", "")...)
	})
	bothForms(t, file, func(x *inodes.Inodes) {
		tells(t, x, file, answer{inode: 1}, call{op: "Walk"})
		fails(t, x, file, api.ErrDir, append(walks("a"), walks("a", "b")...)...)
		fails(t, x, file, api.ErrName, walks("a", "")...)
	})
}

// A name is found wherever its entry stands, at the ends of leaves, too.
func TestWalkAtAllPlaces(t *testing.T) {
	var lines []string
	for i := range 70 {
		lines = append(lines, "/d"+string(rune('A'+i*37%70))+"/")
	}
	m := plant(lines...)
	bothForms(t, m, func(x *inodes.Inodes) {
		for i, e := range m.things[1].entries {
			tells(t, x, m, answer{inode: i + 2}, call{op: "Walk", names: []string{e.Name}})
			way, places, err := find.Chain(x, []string{e.Name})
			if !slices.Equal(way, []int{1, i + 2}) || !slices.Equal(places, []int{i}) || err != api.OK {
				t.Errorf("Chain(%q) = %v, %v, %d; want 1, %d, and %d", e.Name, way, places, err, i+2, i)
			}
		}
	})
}

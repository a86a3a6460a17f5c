package branch_test

import (
	"fmt"
	"testing"

	"signet/api"
)

// 22.3

// Link makes one more entry of a file, wherever that is.
func TestLink(t *testing.T) {
	scenes(t, plant("/d/", "/d/e/", "/f", "/d/g"), func(sc *scene) {
		f, g := sc.m.number("/f"), sc.m.number("/d/g")
		for i, c := range []call{from("Link", "/f", "/a"), from("Link", "/f", "/d/a"), from("Link", "/d/a", "/d/e/f"), from("Link", "//d/../a", "/b/../c"), from("Link", "/d/e/f", "/"+long("n"))} {
			sc.tells(c, answer{})
			if sc.m[f].links != 2+i || sc.m.number(c.s) != f {
				t.Errorf("%s: the file has %d links", c.brief(), sc.m[f].links)
			}
		}
		sc.tells(from("Link", "/d/g", "/g"), answer{})
		if sc.m[g].links != 2 || sc.m[f].links != 6 {
			t.Errorf("the files have %d and %d links", sc.m[g].links, sc.m[f].links)
		}
	})
}

// A directory can't be linked, nor anything to a path that asks, or to a name that is there.
func TestLinkWhatMayNotBe(t *testing.T) {
	scenes(t, plant("/d/", "/d/e/", "/f", "/d/g", "/h = /f"), func(sc *scene) {
		for _, old := range []string{"/", "/d", "/d/", "/d/e", "/d/e/..", "/.."} {
			sc.fails(api.ErrIsDir, from("Link", old, "/a"), from("Link", old, "/a/"), from("Link", old, "/d/a"))
		}
		for _, s := range []string{"/a/", "/d/a/", "/a/.", "/a/b/..", "/d/", "/f/"} {
			sc.fails(api.ErrIsDir, from("Link", "/f", s))
		}
		for _, s := range []string{"/d", "/f", "/h", "/d/e", "/d/g", "/d/../f"} {
			sc.fails(api.ErrThere, from("Link", "/f", s), from("Link", "/d/g", s))
		}
	})
}

// A file with MaxLinks has no more of them; with one less it has.
func TestMaxLinks(t *testing.T) {
	m := plant("/d/", "/e/")
	d := m[2]
	n, _ := m.make(api.KindFile, 1)
	for i := range 999 {
		d.entries = append(d.entries, api.Link{Inode: n, Name: fmt.Sprint("l", i)})
	}
	m[2] = d
	m[n] = thing{kind: api.KindFile, links: 999, stamp: 1, bytes: "bytes"}
	scenes(t, m, func(sc *scene) {
		sc.tells(from("Link", "/d/l7", "/e/a"), answer{})
		sc.fails(api.ErrLinks, from("Link", "/d/l7", "/e/b"), from("Link", "/e/a", "/d/b"), from("Link", "/d/l998", "/b"))
		sc.tells(call{op: "Unlink", s: "/d/l7"}, answer{n: n})
		sc.tells(from("Link", "/d/l8", "/e/b"), answer{})
		sc.fails(api.ErrLinks, from("Link", "/e/a", "/c"))
	})
}

// 22.4

// Unlink takes an entry away; a file with others stays, one without is dropped.
func TestUnlink(t *testing.T) {
	scenes(t, plant("/d/", "/f", "/d/a = /f", "/g", "/d/h"), func(sc *scene) {
		f, g, h := sc.m.number("/f"), sc.m.number("/g"), sc.m.number("/d/h")
		sc.tells(call{op: "Unlink", s: "/f"}, answer{n: f})
		if sc.m[f].links != 1 {
			t.Errorf("the file has %d links", sc.m[f].links)
		}
		sc.fails(api.ErrMissing, of("Unlink", "/f")...)
		sc.tells(call{op: "Unlink", s: "/d/../d/a"}, answer{n: f})
		sc.fails(api.ErrMissing, of("Unlink", "/d/a", "/f")...)
		sc.tells(call{op: "Unlink", s: "/g"}, answer{n: g})
		sc.tells(call{op: "Unlink", s: "/d/h"}, answer{n: h})
		if len(sc.m) != 2 {
			t.Errorf("there are still %v", sc.m.numbers())
		}
	})
}

// Unlink of a directory, of a path that asks, and of what is not there.
func TestUnlinkWhatMayNotBe(t *testing.T) {
	scenes(t, plant("/d/", "/d/e/", "/d/f", "/f", "/g = /f"), func(sc *scene) {
		sc.fails(api.ErrIsDir, of("Unlink", "/d", "/d/", "/d/e", "/d/e/.", "/d/e/..")...)
		sc.fails(api.ErrDir, of("Unlink", "/f/", "/g/", "/d/f/.", "/f/x/..")...)
		sc.fails(api.ErrMissing, of("Unlink", "/a", "/a/", "/d/a", "/d/e/a", "/a/.")...)
	})
}

// A file that is open can't be dropped, but one of several links may go.
func TestUnlinkBusy(t *testing.T) {
	scenes(t, plant("/d/", "/f", "/d/a = /f", "/g"), func(sc *scene) {
		f, g := sc.m.number("/f"), sc.m.number("/g")
		sc.fails(api.ErrBusy, call{op: "Unlink", s: "/g"}.with(g), call{op: "Unlink", s: "/g"}.with(1, 2, f, g))
		sc.tells(call{op: "Unlink", s: "/f"}.with(f, g), answer{n: f})
		sc.fails(api.ErrBusy, call{op: "Unlink", s: "/d/a"}.with(f))
		sc.apart(func(sc *scene) { sc.tells(call{op: "Unlink", s: "/d/a"}.with(), answer{n: f}) })
		sc.tells(call{op: "Unlink", s: "/d/a"}.with(1, 2, g), answer{n: f})
		sc.tells(call{op: "Unlink", s: "/g"}, answer{n: g})
	})
}

// Rmdir takes an empty directory away, and nothing else.
func TestRmdir(t *testing.T) {
	scenes(t, plant("/d/", "/d/e/", "/d/f", "/f", "/g/", "/h/"), func(sc *scene) {
		sc.fails(api.ErrDir, of("Rmdir", "/f", "/f/", "/d/f", "/d/f/.")...)
		sc.fails(api.ErrEmpty, of("Rmdir", "/d", "/d/", "/d/e/..")...)
		sc.fails(api.ErrMissing, of("Rmdir", "/a", "/a/", "/d/e/a")...)
		e, g, h := sc.m.number("/d/e"), sc.m.number("/g"), sc.m.number("/h")
		sc.fails(api.ErrBusy, call{op: "Rmdir", s: "/g"}.with(g), call{op: "Rmdir", s: "/d/e/"}.with(h, e))
		sc.tells(call{op: "Rmdir", s: "/g"}.with(1, h), answer{n: g})
		sc.tells(call{op: "Rmdir", s: "/h/"}, answer{n: h})
		sc.fails(api.ErrMissing, of("Rmdir", "/g", "/h")...)
		sc.tells(call{op: "Rmdir", s: "/d/e/."}.with(), answer{n: e})
		sc.fails(api.ErrEmpty, of("Rmdir", "/d")...)
		sc.does(call{op: "Unlink", s: "/d/f"})
		sc.tells(call{op: "Rmdir", s: "/d"}, answer{n: 2})
	})
}

// A number that was dropped is free again, and what comes has nothing of what was.
func TestDroppedNumbers(t *testing.T) {
	scenes(t, plant("/d/", "/f", "/g/"), func(sc *scene) {
		f := sc.m.number("/f")
		sc.tells(call{op: "Unlink", s: "/f"}, answer{n: f})
		sc.tells(call{op: "Mkdir", s: "/a"}, answer{n: f})
		sc.tells(call{op: "Rmdir", s: "/a"}, answer{n: f})
		sc.tells(call{op: "Create", s: "/b"}, answer{n: f})
	})
}

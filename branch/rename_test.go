package branch_test

import (
	"fmt"
	"testing"

	"signet/api"
)

// 22.5

// Rename moves what is there to where nothing is: in its directory, to another one, with what hangs beneath.
func TestRename(t *testing.T) {
	lines := []string{"/a/", "/a/b/", "/a/b/c", "/f", "/e/", "/a/f", "/z", "/a/g = /f", "/e/x", "/e/y/"}
	for _, c := range []call{
		from("Rename", "/f", "/g"), from("Rename", "/f", "/a/h"), from("Rename", "/a/f", "/h"), from("Rename", "/a/b/c", "/e/c"), from("Rename", "/f", "/a/b/"+long("n")), from("Rename", "/a/g", "/g"),
		from("Rename", "/a", "/h"), from("Rename", "/a/", "/h"), from("Rename", "/a", "/h/"), from("Rename", "/a/.", "/h/."), from("Rename", "/a", "/e/a"), from("Rename", "/a/b", "/b"), from("Rename", "/a/b/", "/e/b/"), from("Rename", "/e/y", "/a/b/y"),
		from("Rename", "/z", "/a/b/../i"), from("Rename", "/a/b", "/a/c"), from("Rename", "/e", "/a/e"), from("Rename", "/a/b", "/ab"), from("Rename", "/a", "/ab"),
	} {
		scenes(t, plant(lines...), func(sc *scene) {
			n := sc.m.number(c.old)
			sc.tells(c, answer{})
			if got, err := sc.m.lookup(c.s); got != n || err != api.OK {
				t.Errorf("%s: there is %d, %d; want %d", c.brief(), got, err, n)
			}
			if _, err := sc.m.lookup(c.old); err != api.ErrMissing {
				t.Errorf("%s: at the old path there is %d", c.brief(), err)
			}
		})
	}
}

// What is moved comes to stand behind the other entries, and the last one takes its old place; where another one was, it has its place. This is told here entry by entry.
func TestRenamePlaces(t *testing.T) {
	entries := func(sc *scene, n int) string {
		text := ""
		for _, e := range sc.m[n].entries {
			text += fmt.Sprint(e.Name, e.Inode, " ")
		}
		return text
	}
	for _, c := range []struct {
		call      call
		top, deep string
	}{
		{from("Rename", "/a", "/x"), "d5 b3 c4 x2 ", "e6 f7 g8 "},
		{from("Rename", "/d", "/x"), "a2 b3 c4 x5 ", "e6 f7 g8 "},
		{from("Rename", "/a", "/d/x"), "d5 b3 c4 ", "e6 f7 g8 x2 "},
		{from("Rename", "/d/e", "/x"), "a2 b3 c4 d5 x6 ", "g8 f7 "},
		{from("Rename", "/a", "/c"), "d5 b3 c2 ", "e6 f7 g8 "},
		{from("Rename", "/c", "/a"), "a4 b3 d5 ", "e6 f7 g8 "},
		{from("Rename", "/a", "/d/f"), "d5 b3 c4 ", "e6 f2 g8 "},
		{from("Rename", "/d/e", "/b"), "a2 b6 c4 d5 ", "g8 f7 "},
		{from("Rename", "/d/g", "/d/e"), "a2 b3 c4 d5 ", "e8 f7 "},
		{from("Rename", "/d/e", "/d/g"), "a2 b3 c4 d5 ", "g6 f7 "},
	} {
		scenes(t, plant("/a", "/b", "/c", "/d/", "/d/e", "/d/f", "/d/g"), func(sc *scene) {
			sc.does(c.call)
			if top, deep := entries(sc, 1), entries(sc, 5); top != c.top || deep != c.deep {
				t.Errorf("%s: %s and %s; want %s and %s", c.call.brief(), top, deep, c.top, c.deep)
			}
		})
	}
}

// Onto itself, and onto another link of the same inode, nothing is changed.
func TestRenameOntoItself(t *testing.T) {
	scenes(t, plant("/a/", "/a/b/", "/a/f", "/f", "/a/g = /f", "/g = /f"), func(sc *scene) {
		for _, c := range []call{
			from("Rename", "/f", "/f"), from("Rename", "/f", "/g"), from("Rename", "/f", "/a/g"), from("Rename", "/a/g", "/g"), from("Rename", "/a/f", "/a/../a/f"),
			from("Rename", "/a", "/a"), from("Rename", "/a", "/a/"), from("Rename", "/a/", "/a/b/.."), from("Rename", "/a/b", "/a/b"),
		} {
			was := sc.m
			sc.tells(c, answer{})
			sc.tells(c.with(1, 2, 3, 4, 5), answer{})
			holds(t, c.brief(), sc.x, was)
		}
	})
}

// Onto a file another file may come; the one that was there loses a link.
func TestRenameOntoAFile(t *testing.T) {
	scenes(t, plant("/a/", "/a/f", "/f", "/g", "/a/h = /g", "/i"), func(sc *scene) {
		f, g, i := sc.m.number("/f"), sc.m.number("/g"), sc.m.number("/i")
		sc.tells(from("Rename", "/f", "/i"), answer{n: i})
		if _, is := sc.m[i]; is || sc.m.number("/i") != f {
			t.Error("the file that was there is not dropped")
		}
		sc.tells(from("Rename", "/a/f", "/g"), answer{n: g})
		if sc.m[g].links != 1 {
			t.Errorf("the file has %d links", sc.m[g].links)
		}
		sc.tells(from("Rename", "/g", "/a/h"), answer{n: g})
		if _, is := sc.m[g]; is {
			t.Error("the file that was there is not dropped")
		}
	})
}

// Onto an empty directory another directory may come, whatever hangs beneath it.
func TestRenameOntoADirectory(t *testing.T) {
	scenes(t, plant("/a/", "/a/f", "/b/", "/c/", "/c/d/", "/e/", "/e/f", "/h"), func(sc *scene) {
		b, d := sc.m.number("/b"), sc.m.number("/c/d")
		sc.fails(api.ErrEmpty, from("Rename", "/a", "/e"), from("Rename", "/b", "/a"), from("Rename", "/b", "/c/"), from("Rename", "/c/d", "/c"))
		sc.tells(from("Rename", "/a", "/b/"), answer{n: b})
		sc.tells(from("Rename", "/b/", "/c/d"), answer{n: d})
		if sc.m.number("/c/d/f") != 3 {
			t.Error("what hangs beneath it was lost")
		}
		sc.fails(api.ErrEmpty, from("Rename", "/c/d", "/e"))
	})
}

// A file does not come onto a directory, nor a directory onto a file.
func TestRenameOntoAnotherKind(t *testing.T) {
	scenes(t, plant("/a/", "/a/f", "/b/", "/f", "/g = /f", "/a/c/"), func(sc *scene) {
		sc.fails(api.ErrIsDir, from("Rename", "/f", "/b"), from("Rename", "/f", "/a"), from("Rename", "/a/f", "/a"), from("Rename", "/g", "/a/c"))
		sc.fails(api.ErrDir, from("Rename", "/b", "/f"), from("Rename", "/a", "/g"), from("Rename", "/b", "/a/f"), from("Rename", "/a/c", "/a/f"), from("Rename", "/b/", "/f/"))
	})
}

// A file to a path that asks, or by one.
func TestRenameAFileThatIsAskedToBeADirectory(t *testing.T) {
	scenes(t, plant("/a/", "/a/f", "/f"), func(sc *scene) {
		for _, old := range []string{"/f/", "/f/.", "/a/f/", "/f/x/.."} {
			sc.fails(api.ErrDir, from("Rename", old, "/g"), from("Rename", old, "/g/"), from("Rename", old, "/f"), from("Rename", old, "/a"))
		}
		for _, s := range []string{"/g/", "/a/g/", "/g/.", "/f/", "/a/", "/a/f/.", "/a/b/.."} {
			sc.fails(api.ErrDir, from("Rename", "/f", s))
		}
		sc.fails(api.ErrMissing, from("Rename", "/g", "/h"), from("Rename", "/g/", "/h"), from("Rename", "/g", "/f"), from("Rename", "/a/g", "/h/"), from("Rename", "/g", "/g"))
	})
}

// A directory does not come to hang in itself, nor beneath itself.
func TestRenameIntoItself(t *testing.T) {
	scenes(t, plant("/a/", "/a/b/", "/a/b/c/", "/a/f", "/ab/", "/d/", "/d/a/"), func(sc *scene) {
		for _, c := range []call{
			from("Rename", "/a", "/a/x"), from("Rename", "/a", "/a/x/"), from("Rename", "/a", "/a/b/x"), from("Rename", "/a/", "/a/b/c/x"), from("Rename", "/a/b", "/a/b/c/x"),
			from("Rename", "/a", "/a/b"), from("Rename", "/a", "/a/f"), from("Rename", "/a", "/a/b/c"), from("Rename", "/a/b", "/d/../a/b/c"), from("Rename", "/a", "/a/a"),
		} {
			sc.fails(api.ErrInside, c, c.with(1, 2, 3, 4, 5, 6, 7, 8))
		}
		sc.fails(api.ErrMissing, from("Rename", "/a", "/a/x/y"))
		sc.fails(api.ErrDir, from("Rename", "/a", "/a/f/y"))
		sc.apartEach(answer{}, from("Rename", "/a/b", "/a/x"), from("Rename", "/a/b/c", "/a/c"), from("Rename", "/a", "/d/x"), from("Rename", "/a", "/d/a/b"), from("Rename", "/a", "/ab/a"))
	})
}

// One that would be dropped can't be, if it is open; one that would not may be open, and the moved one, too.
func TestRenameOntoABusyOne(t *testing.T) {
	scenes(t, plant("/f", "/g", "/h", "/i = /h", "/a/", "/b/", "/b/c", "/d/"), func(sc *scene) {
		f, g, h, d := sc.m.number("/f"), sc.m.number("/g"), sc.m.number("/h"), sc.m.number("/d")
		sc.fails(api.ErrBusy, from("Rename", "/f", "/g").with(g), from("Rename", "/h", "/g").with(g, f), from("Rename", "/b", "/d").with(d), from("Rename", "/a/", "/d/").with(1, d))
		sc.apartEach(answer{n: g}, from("Rename", "/f", "/g"), from("Rename", "/f", "/g").with(), from("Rename", "/f", "/g").with(1, f, h, d))
		sc.apartEach(answer{n: d}, from("Rename", "/b", "/d").with(1, f, g, h, sc.m.number("/b")))
		sc.apartEach(answer{n: h}, from("Rename", "/f", "/h").with(h), from("Rename", "/f", "/i").with(f, h))
		sc.tells(from("Rename", "/f", "/h").with(h), answer{n: h})
		sc.fails(api.ErrBusy, from("Rename", "/h", "/i").with(h))
		sc.apartEach(answer{}, from("Rename", "/h", "/j").with(f), from("Rename", "/a", "/d/a").with(1, d, sc.m.number("/a")))
	})
}

// In a full directory what is there may get another name, as its old entry goes first, and may come onto another one; what comes from elsewhere may come onto one only.
func TestRenameInAFullDirectory(t *testing.T) {
	t.Parallel()
	crowded(t, 40, func(sc *scene) {
		sc.apartEach(answer{}, from("Rename", "/full/l8.0", "/full/a"), from("Rename", "/full/l24.383", "/full/a"), from("Rename", "/full/l8.0", "/a"))
		sc.apartEach(answer{n: 9}, from("Rename", "/full/l8.0", "/full/l9.0"), from("Rename", "/f", "/full/l9.999"))
		sc.apartEach(answer{err: api.ErrFull}, from("Rename", "/f", "/full/a"), from("Rename", "/d", "/full/a"))
	})
}

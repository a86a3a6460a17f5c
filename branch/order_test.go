package branch_test

import (
	"fmt"
	"testing"

	"signet/api"
)

// 22.1: where two errors may be met, the one that the chapter tells first is answered.
func TestWhichErrorIsFirst(t *testing.T) {
	m := plant("/d/", "/d/e/", "/d/e/g", "/d/f", "/f", "/empty/", "/h = /f")
	d, f, df, empty := m.number("/d"), m.number("/f"), m.number("/d/f"), m.number("/empty")
	scenes(t, m, func(sc *scene) {
		for _, c := range []struct {
			err  api.Errno
			call call
		}{
			// Create, Mkdir: the errors of find.Parent, ErrIsDir, ErrThere.
			{api.ErrMissing, call{op: "Create", s: "/x/y/"}},
			{api.ErrDir, call{op: "Create", s: "/f/y/"}},
			{api.ErrPath, call{op: "Create", s: "/"}},
			{api.ErrIsDir, call{op: "Create", s: "/d/"}},
			{api.ErrIsDir, call{op: "Create", s: "/f/"}},
			{api.ErrPath, call{op: "Mkdir", s: "/."}},
			// Link: those of find.Lookup, ErrIsDir, those of find.Parent, ErrIsDir, ErrThere.
			{api.ErrMissing, from("Link", "/x", "y")},
			{api.ErrPath, from("Link", "x", "/x/y")},
			{api.ErrDir, from("Link", "/f/", "/d/")},
			{api.ErrIsDir, from("Link", "/d", "y")},
			{api.ErrIsDir, from("Link", "/d", "/x/y")},
			{api.ErrIsDir, from("Link", "/d", "/f")},
			{api.ErrMissing, from("Link", "/f", "/x/y/")},
			{api.ErrPath, from("Link", "/f", "/")},
			{api.ErrIsDir, from("Link", "/f", "/d/")},
			// Unlink: those of find.Parent, ErrMissing, ErrIsDir, ErrDir, ErrBusy.
			{api.ErrMissing, call{op: "Unlink", s: "/x/"}},
			{api.ErrIsDir, call{op: "Unlink", s: "/d/"}.with(d)},
			{api.ErrIsDir, call{op: "Unlink", s: "/empty"}.with(empty)},
			{api.ErrDir, call{op: "Unlink", s: "/d/f/"}.with(df)},
			// Rmdir: those of find.Parent, ErrMissing, ErrDir, ErrEmpty, ErrBusy.
			{api.ErrDir, call{op: "Rmdir", s: "/d/f"}.with(df)},
			{api.ErrEmpty, call{op: "Rmdir", s: "/d"}.with(d)},
			// Rename: of old, then of s, then of both.
			{api.ErrPath, from("Rename", "x", "/x/y")},
			{api.ErrMissing, from("Rename", "/x/y", "y")},
			{api.ErrMissing, from("Rename", "/x", "y")},
			{api.ErrMissing, from("Rename", "/x/", "/")},
			{api.ErrDir, from("Rename", "/f/", "y")},
			{api.ErrDir, from("Rename", "/f/", "/x/y")},
			{api.ErrDir, from("Rename", "/f/", "/h")},
			{api.ErrMissing, from("Rename", "/f", "/x/y/")},
			{api.ErrPath, from("Rename", "/f", "/")},
			{api.ErrDir, from("Rename", "/f", "/d/")},
			{api.ErrDir, from("Rename", "/f", "/f/")},
			{api.ErrDir, from("Rename", "/f", "/d/f/").with(df)},
			{api.ErrMissing, from("Rename", "/d", "/d/x/y")},
			{api.ErrDir, from("Rename", "/d", "/d/f/y")},
			{api.ErrInside, from("Rename", "/d", "/d/f")},
			{api.ErrInside, from("Rename", "/d", "/d/e").with(d, sc.m.number("/d/e"))},
			{api.ErrIsDir, from("Rename", "/f", "/d").with(d)},
			{api.ErrIsDir, from("Rename", "/f", "/empty").with(empty)},
			{api.ErrDir, from("Rename", "/empty", "/d/f").with(df)},
			{api.ErrEmpty, from("Rename", "/empty", "/d").with(d)},
			{api.ErrEmpty, from("Rename", "/d/e", "/d").with(d)},
			// Copy: of old, then of s, then ErrIsDir, ErrThere, ErrInside.
			{api.ErrMissing, from("Copy", "/x", "y")},
			{api.ErrDir, from("Copy", "/f/", "/d/")},
			{api.ErrPath, from("Copy", "/", "/")},
			{api.ErrMissing, from("Copy", "/f", "/x/y/")},
			{api.ErrMissing, from("Copy", "/d", "/d/x/y")},
			{api.ErrIsDir, from("Copy", "/f", "/d/")},
			{api.ErrIsDir, from("Copy", "/f", "/f/")},
			{api.ErrThere, from("Copy", "/d", "/d/e")},
			{api.ErrThere, from("Copy", "/d", "/d/f")},
			{api.ErrThere, from("Copy", "/", "/d/e/g")},
			// RemoveAll: those of find.Parent, ErrMissing, ErrDir, ErrBusy.
			{api.ErrMissing, call{op: "RemoveAll", s: "/x/"}},
			{api.ErrDir, call{op: "RemoveAll", s: "/d/f/"}.with(df)},
			{api.ErrDir, call{op: "RemoveAll", s: "/f/"}.with(f)},
			// Same: those of a, then of b.
			{api.ErrMissing, from("Same", "/x", "y")},
			{api.ErrPath, from("Same", "y", "/x")},
			{api.ErrDir, from("Same", "/f/", "/x")},
		} {
			sc.fails(c.err, c.call)
		}
	})
}

// ErrThere is ahead of ErrInodes, ErrInodes ahead of ErrFull, ErrThere of ErrLinks, ErrLinks of ErrFull, ErrInside of ErrInodes.
func TestWhichErrorIsFirstInACrowd(t *testing.T) {
	t.Parallel()
	crowded(t, 4096, func(sc *scene) {
		sc.apartEach(answer{err: api.ErrThere}, makes("/f", "/full/l8.0")...)
		sc.apartEach(answer{err: api.ErrIsDir}, of("Create", "/a/", "/full/a/")...)
		sc.apartEach(answer{err: api.ErrInodes}, append(makes("/full/a"), from("Copy", "/f", "/full/a"), from("Copy", "/d", "/full/a"))...)
		sc.apartEach(answer{err: api.ErrThere}, from("Link", "/full/l8.0", "/f"), from("Link", "/full/l8.0", "/full/l9.1"), from("Copy", "/f", "/full/l9.1"))
		sc.apartEach(answer{err: api.ErrLinks}, from("Link", "/full/l8.0", "/full/a"), from("Link", "/full/l8.0", "/a"))
		sc.apartEach(answer{err: api.ErrInside}, from("Copy", "/d", "/d/e/x"), from("Copy", "/full", "/full/a"), from("Rename", "/full", "/full/a"))
		sc.apartEach(answer{err: api.ErrDir}, from("Rename", "/f", "/full/a/"))
		sc.apartEach(answer{err: api.ErrFull}, from("Rename", "/f", "/full/a").with(1, 2, 3, 4, 5, 6, 7))
	})
}

// 22.6

// with is the numbers of the inodes that have a stamp.
func (m model) with(stamp uint64) string {
	text := ""
	for _, n := range m.numbers() {
		if m[n].stamp == stamp {
			text += fmt.Sprint(n, " ")
		}
	}
	return text
}

// Behind each call just those directories have the stamp whose entries changed, and those inodes whose Links changed or that were made. (That the inodes are as the model says is asked of each call.)
func TestStamps(t *testing.T) {
	// 1 /, 2 /a, 3 /a/b, 4 /a/b/f, 5 /d, 6 /d/g, 7 /h, 8 /e, 9 /d/i
	m := plant("/a/", "/a/b/", "/a/b/f", "/d/", "/d/g", "/h", "/e/", "/d/i", "/a/l = /h", "/a/b/m = /d/g")
	scenes(t, m, func(sc *scene) {
		for _, c := range []struct {
			call call
			want string
		}{
			{call{op: "Create", s: "/n"}, "1 10 "},
			{call{op: "Create", s: "/a/b/n"}, "3 10 "},
			{call{op: "Mkdir", s: "/a/n"}, "2 10 "},
			{call{op: "Mkdir", s: "/n/"}, "1 10 "},
			{from("Link", "/h", "/n"), "1 7 "},
			{from("Link", "/a/l", "/a/b/n"), "3 7 "},
			{from("Link", "/d/i", "/d/n"), "5 9 "},
			{call{op: "Unlink", s: "/h"}, "1 7 "},
			{call{op: "Unlink", s: "/a/l"}, "2 7 "},
			{call{op: "Unlink", s: "/a/b/f"}, "3 "},
			{call{op: "Rmdir", s: "/e"}, "1 "},
			{from("Rename", "/h", "/n"), "1 "},
			{from("Rename", "/h", "/a/b/n"), "1 3 "},
			{from("Rename", "/a/b", "/n"), "1 2 "},
			{from("Rename", "/a", "/n"), "1 "},
			{from("Rename", "/h", "/d/i"), "1 5 "},
			{from("Rename", "/h", "/d/g"), "1 5 6 "},
			{from("Rename", "/d/i", "/d/g"), "5 6 "},
			{from("Rename", "/a/b/f", "/a/l"), "2 3 7 "},
			{from("Rename", "/a", "/e"), "1 "},
			{from("Rename", "/a/b", "/e"), "1 2 "},
			{from("Rename", "/h", "/a/l"), ""},
			{from("Rename", "/h", "/h"), ""},
			{from("Rename", "/a", "/a/"), ""},
			{from("Copy", "/h", "/n"), "1 10 "},
			{from("Copy", "/a", "/d/n"), "5 10 11 12 13 14 "},
			{from("Copy", "/e", "/a/b/n"), "3 10 "},
			{call{op: "RemoveAll", s: "/e"}, "1 "},
			{call{op: "RemoveAll", s: "/a"}, "1 6 7 "},
			{call{op: "RemoveAll", s: "/a/b"}, "2 6 "},
			{call{op: "RemoveAll", s: "/h"}, "1 7 "},
			{call{op: "RemoveAll", s: "/d"}, "1 6 "},
			{from("Same", "/a", "/d"), ""},
			{from("Same", "/a", "/a"), ""},
			{call{op: "Begin"}, ""},
			{call{op: "Create", s: "/h"}, ""},
			{call{op: "Rmdir", s: "/a"}, ""},
			{from("Copy", "/a", "/a/n"), ""},
			{call{op: "RemoveAll", s: "/a"}.with(4), ""},
		} {
			sc.apart(func(sc *scene) {
				sc.does(c.call)
				if got := sc.m.with(sc.stamp); got != c.want {
					t.Errorf("%s: %shave the stamp; want %s", c.call.brief(), got, c.want)
				}
			})
		}
	})
}

// All stamps may be laid, that which was there, too: where it is the same nothing differs but the entries.
func TestAnyStamp(t *testing.T) {
	for _, stamp := range []uint64{0, 1, 1<<63 - 1, 1 << 63, 1<<64 - 1} {
		scenes(t, grove(), func(sc *scene) {
			for _, c := range []call{
				{op: "Create", s: "/n"}, from("Link", "/n", "/l"), from("Copy", "/a", "/c"), from("Rename", "/c", "/e"), {op: "Mkdir", s: "/m"}, {op: "Unlink", s: "/l"}, {op: "Rmdir", s: "/m"}, {op: "RemoveAll", s: "/a"},
			} {
				sc.stamp = stamp - 1
				if a := sc.does(c); a.err != api.OK {
					t.Errorf("%s = %v", c.brief(), a)
				}
			}
		})
	}
}

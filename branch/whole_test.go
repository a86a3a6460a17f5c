package branch_test

import (
	"fmt"
	"maps"
	"slices"
	"testing"

	"signet/api"
)

// 22.8

// grove is a tree with files and directories in several depths, with links within and without, and entries whose names do not stand in their order.
func grove() model {
	return plant("/a/", "/a/z", "/a/m/", "/a/b", "/a/m/y", "/a/m/c/", "/a/m/c/x", "/a/m/a = /a/b", "/a/k = /a/b", "/f", "/e/", "/a/m/out = /f", "/g/", "/g/h")
}

// Copy makes what is the same as what was copied, which stays; its numbers come in the order of the names.
func TestCopy(t *testing.T) {
	for _, c := range []struct {
		call call
		news []string
	}{
		{from("Copy", "/f", "/c"), []string{"/c"}},
		{from("Copy", "/a/m/out", "/g/f"), []string{"/g/f"}},
		{from("Copy", "/e", "/c"), []string{"/c"}},
		{from("Copy", "/e/", "/g/c/"), []string{"/g/c"}},
		{from("Copy", "/g", "/c"), []string{"/c", "/c/h"}},
		{from("Copy", "/a", "/c"), []string{"/c", "/c/b", "/c/k", "/c/m", "/c/m/a", "/c/m/c", "/c/m/c/x", "/c/m/out", "/c/m/y", "/c/z"}},
		{from("Copy", "/a/m", "/a/c/."), []string{"/a/c", "/a/c/a", "/a/c/c", "/a/c/c/x", "/a/c/out", "/a/c/y"}},
		{from("Copy", "/a/m/c", "/e/../"+long("n")), []string{"/" + long("n"), "/" + long("n") + "/x"}},
		{from("Copy", "/a/b", "/a/"+long("n")), []string{"/a/" + long("n")}},
	} {
		scenes(t, grove(), func(sc *scene) {
			was := sc.m
			first := len(was) + 1
			sc.tells(c.call, answer{n: first})
			if len(sc.m) != len(was)+len(c.news) {
				t.Errorf("%s: %d are new", c.call.brief(), len(sc.m)-len(was))
			}
			for i, s := range c.news {
				n := sc.m.number(s)
				if n != first+i || sc.m[n].links != 1 || sc.m[n].stamp != sc.stamp {
					t.Errorf("%s: %s is %d, %v; want %d", c.call.brief(), s, n, sc.m.info(n), first+i)
				}
			}
			sc.tells(from("Same", c.call.old, c.call.s), answer{same: true})
			if sc.m.like(sc.m.number(c.call.old)) != was.like(was.number(c.call.old)) {
				t.Errorf("%s: what was copied is another one", c.call.brief())
			}
		})
	}
}

// Copies take the least numbers that are free when they are made, and these need not rise.
func TestCopyTakesTheLeastNumbers(t *testing.T) {
	m := plant("/1", "/2", "/a/", "/3", "/a/c", "/a/b", "/4", "/5")
	for _, s := range []string{"/1", "/3", "/4"} {
		call{op: "Unlink", s: s}.on(m)
	}
	scenes(t, m, func(sc *scene) {
		sc.tells(from("Copy", "/a", "/n"), answer{n: 2})
		if b, c := sc.m.number("/n/b"), sc.m.number("/n/c"); b != 5 || c != 8 {
			t.Errorf("/n/b is %d, /n/c is %d; want 5, 8", b, c)
		}
		sc.tells(from("Copy", "/2", "/m"), answer{n: 10})
	})
}

// Files of all sizes at which something changes have the same bytes when they are copied, holes too.
func TestCopyOfFiles(t *testing.T) {
	for _, size := range []int{0, 1, 255, 256, 257, 300, 512, 1023, 1024, 1025, 4096, 5000} {
		for _, bytes := range []string{rep("x", size), rep("\x00", size), (rep("\x00", 700) + rep("y", 10) + rep("\x00", 5000))[:size], (rep("z", 256) + rep("\x00", 5000))[:size], (rep("z", 100) + rep("\x00", 5000))[:size]} {
			m := plant("/d/")
			n, _ := m.make(api.KindFile, 1)
			m.add(1, n, "f", 1)
			m[n] = thing{kind: api.KindFile, links: 1, stamp: 1, bytes: bytes}
			scenes(t, m, func(sc *scene) {
				sc.tells(from("Copy", "/f", "/d/g"), answer{n: 4})
				sc.tells(from("Copy", "/d", "/e"), answer{n: 5})
				sc.tells(from("Same", "/f", "/e/g"), answer{same: true})
			})
		}
	}
}

// A file of MaxFile bytes is copied: all bytes of it, and one that is all holes.
func TestCopyOfTheGreatest(t *testing.T) {
	t.Parallel()
	for _, bytes := range []string{rep("\x00", 1<<20), rep("\x00", 1<<20-1) + "e", rep("0123456789abcdef", 1<<16)} {
		m := plant("/d/", "/f")
		m[3] = thing{kind: api.KindFile, links: 1, stamp: 1, bytes: bytes}
		sc := scene{t, made(t, 16, 0).laid(m), m, 1}
		sc.tells(from("Copy", "/f", "/d/g"), answer{n: 4})
		sc.tells(from("Same", "/f", "/d/g"), answer{same: true})
	}
}

// What is copied and the copy are apart: what is done to the one is not done to the other.
func TestCopyIsApart(t *testing.T) {
	scenes(t, grove(), func(sc *scene) {
		sc.does(from("Copy", "/a", "/c"))
		for _, s := range []string{"/a/m/c/x", "/c/m/y", "/c/b"} {
			n := sc.m.number(s)
			f := sc.m[n]
			f.bytes, f.stamp = "another", 99
			sc.m[n] = f
			fill(t, sc.x, n, f)
			holds(t, "a file written", sc.x, sc.m)
		}
		sc.does(call{op: "Unlink", s: "/c/m/a"})
		sc.does(call{op: "Create", s: "/a/m/new"})
		sc.tells(from("Same", "/a", "/c"), answer{})
	})
}

// A copy of what was linked in several places has no links: each is a file of its own.
func TestCopyHasNoLinks(t *testing.T) {
	scenes(t, plant("/a/", "/a/f", "/a/g = /a/f", "/h = /a/f"), func(sc *scene) {
		sc.tells(from("Copy", "/a", "/b"), answer{n: 4})
		f, g := sc.m.number("/b/f"), sc.m.number("/b/g")
		if f != 5 || g != 6 || sc.m[f].links != 1 || sc.m[g].links != 1 || sc.m[3].links != 3 {
			t.Errorf("%v, %v; the copied one %v", sc.m.info(f), sc.m.info(g), sc.m.info(3))
		}
	})
}

// Copy into itself, to a name that is there, of a file to a path that asks.
func TestCopyWhatMayNotBe(t *testing.T) {
	scenes(t, grove(), func(sc *scene) {
		sc.fails(api.ErrInside, from("Copy", "/a", "/a/x"), from("Copy", "/a", "/a/x/"), from("Copy", "/a/", "/a/m/x"), from("Copy", "/a", "/a/m/c/x/../y"), from("Copy", "/a/m", "/a/m/x"), from("Copy", "/", "/x"), from("Copy", "/", "/a/m/x"), from("Copy", "/..", "/e/x"))
		sc.fails(api.ErrThere, from("Copy", "/f", "/f"), from("Copy", "/f", "/a"), from("Copy", "/a", "/f"), from("Copy", "/a", "/a"), from("Copy", "/e", "/g"), from("Copy", "/e", "/g/h"), from("Copy", "/f", "/a/m/out"), from("Copy", "/e", "/f/"))
		sc.fails(api.ErrIsDir, from("Copy", "/f", "/x/"), from("Copy", "/a/b", "/e/x/."), from("Copy", "/f", "/f/"), from("Copy", "/f", "/a/"))
		sc.apartEach(answer{n: 13}, from("Copy", "/a/m", "/a/x"), from("Copy", "/a", "/e/a"), from("Copy", "/a", "/g/a"))
	})
}

// With one free number too few nothing is copied; with just enough it is.
func TestCopyWithFewNumbers(t *testing.T) {
	t.Parallel()
	for many := 4086; many <= 4096; many++ {
		crowded(t, many, func(sc *scene) {
			for name, needs := range map[string]int{"/f": 1, "/d/e": 1, "/d": 3} {
				want := answer{n: many + 1}
				if many+needs > 4096 {
					want = answer{err: api.ErrInodes}
				}
				sc.apartEach(want, from("Copy", name, "/copy"))
			}
			want := answer{err: api.ErrInodes}
			sc.apartEach(want, from("Copy", "/many", "/copy"))
		})
	}
}

// Of a directory that is full a copy is full, too.
func TestCopyOfAFullDirectory(t *testing.T) {
	t.Parallel()
	crowded(t, 40, func(sc *scene) {
		// It has more entries than there are numbers.
		sc.apartEach(answer{err: api.ErrInodes}, from("Copy", "/full", "/copy"))
	})
}

// 22.9

// RemoveAll takes a file's entry away, and drops it with its last one.
func TestRemoveAllOfAFile(t *testing.T) {
	scenes(t, grove(), func(sc *scene) {
		f := sc.m.number("/f")
		sc.fails(api.ErrDir, of("RemoveAll", "/f/", "/a/b/.", "/a/m/out/")...)
		sc.fails(api.ErrMissing, of("RemoveAll", "/x", "/x/", "/a/m/x")...)
		sc.tells(call{op: "RemoveAll", s: "/f"}, answer{n: 1})
		if sc.m[f].links != 1 {
			t.Errorf("the file has %d links", sc.m[f].links)
		}
		sc.fails(api.ErrMissing, of("RemoveAll", "/f")...)
		sc.tells(call{op: "RemoveAll", s: "/a/m/out"}, answer{n: 1})
		if _, is := sc.m[f]; is {
			t.Error("the file is not dropped")
		}
	})
}

// RemoveAll takes a directory away, with all beneath it; files that have links without stay.
func TestRemoveAllOfATree(t *testing.T) {
	for _, c := range []struct {
		s    string
		many int
		gone []int
	}{
		{"/e", 1, []int{10}},
		{"/e/", 1, []int{10}},
		{"/g", 2, []int{11, 12}},
		{"/a/m/c/.", 2, []int{7, 8}},
		{"/a/m", 6, []int{4, 6, 7, 8}},
		{"/a/m/c/x/../..", 6, []int{4, 6, 7, 8}},
		{"/a", 10, []int{2, 3, 4, 5, 6, 7, 8}},
	} {
		scenes(t, grove(), func(sc *scene) {
			// The numbers as grow gave them: /a 2, z 3, m 4, b 5, y 6, c 7, x 8, /f 9, /e 10, /g 11, h 12.
			was := sc.m
			sc.tells(call{op: "RemoveAll", s: c.s}, answer{n: c.many})
			var gone []int
			for _, n := range was.numbers() {
				if _, is := sc.m[n]; !is {
					gone = append(gone, n)
				}
			}
			if !slices.Equal(gone, c.gone) {
				t.Errorf("RemoveAll(%q): gone are %v; want %v", c.s, gone, c.gone)
			}
			sc.fails(api.ErrMissing, of("RemoveAll", c.s)...)
		})
	}
}

// Of a file with links within and without as many go as are within.
func TestRemoveAllOfLinks(t *testing.T) {
	scenes(t, plant("/a/", "/a/f", "/a/b/", "/a/b/g = /a/f", "/h = /a/f", "/i = /a/f"), func(sc *scene) {
		sc.tells(call{op: "RemoveAll", s: "/a"}.with(3), answer{n: 4})
		if sc.m[3].links != 2 || sc.m.number("/h") != 3 || sc.m.number("/i") != 3 {
			t.Errorf("the file is %v", sc.m.info(3))
		}
	})
}

// One of those that would be dropped may not be open; one that has a link without may.
func TestRemoveAllBusy(t *testing.T) {
	scenes(t, grove(), func(sc *scene) {
		all := func(s string, busy ...int) call { return call{op: "RemoveAll", s: s}.with(busy...) }
		for _, n := range []int{2, 3, 4, 5, 6, 7, 8} {
			sc.fails(api.ErrBusy, all("/a", n), all("/a/", 1, n, 9))
		}
		for _, n := range []int{4, 6, 7, 8} {
			sc.fails(api.ErrBusy, all("/a/m", n))
		}
		sc.fails(api.ErrBusy, all("/e", 10), all("/g", 12), all("/g", 11), all("/g/h", 12))
		sc.apartEach(answer{n: 6}, all("/a/m", 1, 2, 3, 5, 9, 10, 11, 12), all("/a/m"))
		sc.apartEach(answer{n: 10}, all("/a", 1, 9, 10, 11, 12), all("/a", 9), call{op: "RemoveAll", s: "/a"})
		sc.apartEach(answer{n: 1}, all("/f", 9), all("/a/b", 5), all("/a/m/out", 9), all("/a/k", 5))
		sc.does(call{op: "Unlink", s: "/f"})
		sc.fails(api.ErrBusy, all("/a", 9), all("/a/m", 9), all("/a/m/out", 9))
	})
}

// What is too deep for a path to name goes, too, is copied, and held against another one.
func TestDeeperThanPaths(t *testing.T) {
	top := ""
	lines := []string{}
	for i := range 31 {
		top += fmt.Sprint("/", i)
		lines = append(lines, top+"/")
	}
	lines = append(lines, top+"/f", "/d/", "/d/e/")
	scenes(t, plant(lines...), func(sc *scene) {
		f := sc.m.number(top + "/f")
		sc.tells(from("Rename", "/0", "/d/e/0"), answer{})
		sc.fails(api.ErrDeep, of("Unlink", "/d/e"+top+"/f")...)
		sc.tells(from("Copy", "/d", "/c"), answer{n: len(sc.m) + 1})
		sc.tells(from("Same", "/c", "/d"), answer{same: true})
		g := sc.m[f]
		g.bytes = "another"
		sc.m[f] = g
		fill(t, sc.x, f, g)
		sc.tells(from("Same", "/c", "/d"), answer{})
		sc.fails(api.ErrBusy, call{op: "RemoveAll", s: "/d"}.with(f))
		sc.tells(call{op: "RemoveAll", s: "/d"}, answer{n: 34})
		sc.tells(from("Rename", "/c/e/0", "/0"), answer{})
		sc.tells(from("Same", "/0", top+"/.."+rep("/..", 30)+"/0"), answer{same: true})
	})
}

// A full directory goes with all of its entries.
func TestRemoveAllOfAFullDirectory(t *testing.T) {
	t.Parallel()
	crowded(t, 4096, func(sc *scene) {
		sc.apart(func(sc *scene) {
			sc.tells(from("Link", "/full/l24.0", "/d/kept"), answer{})
			sc.tells(call{op: "RemoveAll", s: "/full"}, answer{n: 16385})
			sc.tells(call{op: "RemoveAll", s: "/many"}, answer{n: 4096 - 24 + 1})
			if l := sc.m.numbers(); !slices.Equal(l, []int{1, 4, 5, 6, 7, 24}) {
				t.Errorf("left are %v", l)
			}
		})
	})
}

// 22.10

// Same tells whether bytes are the same, or names and what hangs beneath them.
func TestSame(t *testing.T) {
	m := plant("/a/", "/a/d/", "/a/d/e/", "/a/d/f", "/a/g", "/empty/", "/none")
	m.grow("/none2")
	for _, s := range []string{"/none", "/none2"} {
		f := m[m.number(s)]
		f.bytes = ""
		m[m.number(s)] = f
	}
	call{op: "Copy", old: "/a", s: "/b"}.on(m)
	scenes(t, m, func(sc *scene) {
		yes := func(a, b string) {
			t.Helper()
			sc.tells(from("Same", a, b), answer{same: true})
			sc.tells(from("Same", b, a), answer{same: true})
		}
		no := func(a, b string) {
			t.Helper()
			sc.tells(from("Same", a, b), answer{})
			sc.tells(from("Same", b, a), answer{})
		}
		yes("/a", "/b")
		yes("/a/", "/b/d/..")
		yes("/a/d/f", "/b/d/f")
		yes("/a/d/e", "/empty")
		yes("/none", "/none2")
		for _, s := range []string{"/", "/a", "/a/g", "/empty", "/none"} {
			yes(s, s)
		}
		no("/none", "/empty")
		no("/", "/a")
		no("/a", "/a/d")
		no("/a/g", "/a/d/f")
		no("/a/g", "/none")
		no("/a/d", "/a/d/f")
	})
}

// Trees that are unlike by one thing are not the same, whichever of them has it.
func TestSameOfTreesThatAreUnlike(t *testing.T) {
	lines := []string{"/a/", "/a/d/", "/a/d/e/", "/a/d/f", "/a/g", "/a/d/e/h", "/b/", "/b/g", "/b/d/", "/b/d/f", "/b/d/e/", "/b/d/e/h", "/x"}
	m := plant(lines...)
	text := rep("0123456789", 100)
	for _, s := range []string{"/a/d/f", "/b/d/f"} {
		f := m[m.number(s)]
		f.bytes = text
		m[m.number(s)] = f
	}
	for _, s := range []string{"/a/g", "/b/g", "/a/d/e/h", "/b/d/e/h"} {
		f := m[m.number(s)]
		f.bytes = s[2:]
		m[m.number(s)] = f
	}
	scenes(t, m, func(sc *scene) {
		unlike := func(what string, do func(sc *scene)) {
			t.Helper()
			sc.apart(func(sc *scene) {
				sc.tells(from("Same", "/a", "/b"), answer{same: true})
				do(sc)
				if a := sc.does(from("Same", "/a", "/b")); a.same {
					t.Errorf("%s: they are told to be the same", what)
				}
				sc.tells(from("Same", "/b", "/a"), answer{})
			})
		}
		write := func(s, bytes string) func(sc *scene) {
			return func(sc *scene) {
				n := sc.m.number(s)
				f := sc.m[n]
				f.bytes = bytes
				sc.m = maps.Clone(sc.m)
				sc.m[n] = f
				fill(t, sc.x, n, f)
			}
		}
		do := func(c call) func(sc *scene) {
			return func(sc *scene) {
				if a := sc.does(c); a.err != api.OK {
					t.Errorf("%s = %v", c.brief(), a)
				}
			}
		}
		for _, at := range []int{0, 255, 256, 511, 999} {
			unlike(fmt.Sprint("byte ", at), write("/b/d/f", text[:at]+"x"+text[at+1:]))
		}
		unlike("a byte more", write("/b/d/f", text+"0"))
		unlike("a zero more", write("/b/d/f", text+"\x00"))
		unlike("a byte less", write("/a/d/f", text[:999]))
		unlike("a byte deep down", write("/a/d/e/h", "/d/e/i"))
		unlike("a name", do(from("Rename", "/b/g", "/b/G")))
		unlike("a name deep down", do(from("Rename", "/a/d/e/h", "/a/d/e/hh")))
		unlike("a name of a directory", do(from("Rename", "/b/d/e", "/b/d/E")))
		unlike("an entry more", do(call{op: "Create", s: "/b/d/e/i"}))
		unlike("an entry less", do(call{op: "Unlink", s: "/a/g"}))
		unlike("another place", do(from("Rename", "/a/d/f", "/a/f")))
		unlike("a kind", func(sc *scene) {
			do(call{op: "Unlink", s: "/b/d/e/h"})(sc)
			do(call{op: "Mkdir", s: "/b/d/e/h"})(sc)
		})
		unlike("a kind, both of no bytes", func(sc *scene) {
			do(call{op: "Create", s: "/a/d/e/n"})(sc)
			do(call{op: "Mkdir", s: "/b/d/e/n"})(sc)
		})
		unlike("names that are swapped", func(sc *scene) {
			do(from("Rename", "/b/g", "/b/t"))(sc)
			do(from("Rename", "/b/d/e/h", "/b/g"))(sc)
			do(from("Rename", "/b/t", "/b/d/e/h"))(sc)
		})
	})
}

// Stamps, links, numbers and the places of entries have no part in what is the same.
func TestSameDespiteAllElse(t *testing.T) {
	m := plant("/a/", "/a/f", "/a/g", "/b/", "/b/g", "/b/f", "/c = /b/f")
	for _, s := range []string{"/a/f", "/a/g", "/b/g", "/b/f"} {
		f := m[m.number(s)]
		f.bytes, f.stamp = s[3:], uint64(m.number(s))
		m[m.number(s)] = f
	}
	scenes(t, m, func(sc *scene) {
		sc.tells(from("Same", "/a", "/b"), answer{same: true})
		sc.does(call{op: "Unlink", s: "/a/g"})
		sc.does(from("Link", "/b/g", "/a/g"))
		sc.tells(from("Same", "/a", "/b"), answer{same: true})
	})
}

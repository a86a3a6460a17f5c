package verify_test

import (
	"encoding/binary"
	"math"
	"strings"
	"testing"

	"signet/api"
)

// 26.2: bytes of files, on systems that were committed.

// ranges is paths and ranges of the world.
var ranges = []struct {
	p      string
	off, n int
}{
	{"/empty", 0, 0}, {"/one", 0, 1}, {"/one", 0, 0}, {"/one", 1, 0}, {"/leaf", 0, 256}, {"/leaf", 255, 1}, {"/leaf", 256, 0}, {"/leaf", 17, 30},
	{"/two", 0, 257}, {"/two", 255, 2}, {"/two", 256, 1}, {"/two", 0, 256}, {"/two", 257, 0}, {"/long", 0, 1300}, {"/long", 250, 300}, {"/long", 255, 258}, {"/long", 256, 256}, {"/long", 511, 2},
	{"/long", 1299, 1}, {"/holes", 0, 1000}, {"/holes", 700, 4450}, {"/holes", 0, 768}, {"/holes", 5149, 1}, {"/zeros", 0, 5000}, {"/zeros", 4999, 1}, {"/great", 0, 3}, {"/great", 700*256 - 1, 258},
	{"/great", api.MaxFile - 1, 1}, {"/great", api.MaxFile, 0}, {"/d/f", 1, 3}, {"/d/f", 5, 0}, {"//d/./x/../f", 0, 5}, {"/four" + numbered(3), 0, 5}, {"/five" + numbered(4), 2, 2}, {"/many" + numbered(69), 0, 5}, {depth(32), 250, 450},
}

func TestRightProofs(t *testing.T) {
	t.Parallel()
	b, s := world(t)
	for _, x := range ranges {
		bytes, text := b.bytes(x.p, x.off, x.n), b.proof(x.p, x.off, x.n)
		q := question{s, x.p, x.off, bytes, text}
		q.is(t, "right", api.OK)
		q.text = text + "\x00"
		q.is(t, "a byte more", api.ErrProof)
		q.text = text[:len(text)-1]
		q.is(t, "a byte fewer", api.ErrProof)
		q.text = text + text[len(text)-256:]
		q.is(t, "a block more", api.ErrProof)
		q.text = text + text
		q.is(t, "twice", api.ErrProof)
		q.text, q.p = text, x.p+"/"
		q.is(t, "as a directory", api.ErrDir)
		q.p = x.p + "/."
		q.is(t, "as a directory", api.ErrDir)
		q.p = x.p + "/../" + x.p[strings.LastIndexByte(x.p, '/')+1:]
		q.is(t, "by another path", api.OK)
		if x.n > 0 {
			q.p = x.p
			q.bytes = turned(bytes, 8*x.n-8)
			q.is(t, "another last byte", api.ErrClaim)
			q.bytes = turned(bytes, 7)
			q.is(t, "another first byte", api.ErrClaim)
		}
	}
}

// Each text that is shorter than a proof is none.
func TestCutProofs(t *testing.T) {
	t.Parallel()
	b, s := world(t)
	for _, x := range ranges {
		bytes, text := b.bytes(x.p, x.off, x.n), b.proof(x.p, x.off, x.n)
		q := question{s, x.p, x.off, bytes, text}
		met := meantCheck(s, x.p, x.off, bytes, text)
		cuts := []int{0, 1, len(text) - 1}
		for _, at := range met.blocks {
			cuts = append(cuts, at, at+1, at+255)
		}
		for _, at := range met.places {
			cuts = append(cuts, at, at+1, at+2, at+3, at+4)
		}
		for _, many := range cuts {
			q.text = text[:many]
			if err := q.asksCheck(t); err != api.ErrProof {
				t.Errorf("Check of %s by the first %d bytes = %d", x.p, many, err)
			}
		}
	}
	_, text := b.list("/five")
	for many := range text {
		question{s, "/five", 0, "", text[:many]}.asksList(t)
		if err := (question{s, "/five" + numbered(1), 0, "", text[:many]}).asksCheck(t); err == api.OK {
			t.Fatalf("a list's first %d bytes prove a file", many)
		}
	}
}

func TestEachLengthOfAProof(t *testing.T) {
	b, s := small(t)
	text := b.proof("/d/f", 1, 3)
	for many := range text {
		if err := (question{s, "/d/f", 1, "ell", text[:many]}).asksCheck(t); err != api.ErrProof {
			t.Fatalf("Check of the first %d bytes = %d", many, err)
		}
	}
	for many := range 600 {
		for _, more := range []string{strings.Repeat("\x00", many+1), strings.Repeat(text, 2)[:many+1]} {
			if err := (question{s, "/d/f", 1, "ell", text + more}).asksCheck(t); err != api.ErrProof {
				t.Fatalf("Check with %d bytes more = %d", many+1, err)
			}
		}
	}
}

func TestWrongPaths(t *testing.T) {
	b, s := world(t)
	text := b.proof("/d/f", 1, 3)
	deep := b.proof(depth(32), 0, 0)
	for p, want := range map[string]api.Errno{
		"": api.ErrPath, "d/f": api.ErrPath, "./d/f": api.ErrPath, "\x00/d/f": api.ErrPath,
		"/d/\x00": api.ErrName, "/" + strings.Repeat("x", 57): api.ErrName, "/d/f/\x00": api.ErrName, depth(33): api.ErrDeep, depth(32) + "/x/..": api.ErrDeep,
		"/" + strings.Repeat("/", 1024): api.ErrLong, strings.Repeat("x", 1025): api.ErrLong,
	} {
		for _, s := range []api.Slot{s, {}, {Counter: 9, Root: api.Ref{At: 9}}} {
			for _, text := range []string{text, deep, "", "x"} {
				for _, off := range []int{0, -1, 1, math.MaxInt, math.MinInt} {
					question{s, p, off, "ell", text}.is(t, "no path", want)
				}
			}
		}
	}
}

func TestPlacesBelowZero(t *testing.T) {
	b, s := small(t)
	text := b.proof("/d/f", 1, 3)
	for _, off := range []int{-1, -2, -3, -256, math.MinInt, math.MinInt + 1} {
		for _, bytes := range []string{"", "h", "hello"} {
			for _, p := range []string{"/", "/d/", "/d/f", "/d/f/", "/x", "/d/f/x"} {
				for _, s := range []api.Slot{s, {}, {Counter: 9, Root: s.Root}, {Counter: s.Counter, Root: api.Ref{At: 1}}} {
					for _, text := range []string{text, text[:100], ""} {
						question{s, p, off, bytes, text}.is(t, "below 0", api.ErrArg)
					}
				}
			}
		}
	}
}

func TestRangesPastTheSize(t *testing.T) {
	b, s := world(t)
	for _, x := range []struct {
		p    string
		size int
	}{{"/empty", 0}, {"/one", 1}, {"/leaf", 256}, {"/two", 257}, {"/long", 1300}, {"/zeros", 5000}, {"/great", api.MaxFile}} {
		text := b.proof(x.p, 0, 0)
		question{s, x.p, x.size, "", text}.is(t, "no bytes at the size", api.OK)
		last := b.proof(x.p, max(0, x.size-1), min(1, x.size))
		for _, text := range []string{text, last, text + "junk"} {
			question{s, x.p, x.size, "x", text}.is(t, "one byte at the size", api.ErrRange)
			question{s, x.p, x.size + 1, "", text}.is(t, "no bytes behind the size", api.ErrRange)
			question{s, x.p, max(0, x.size-1), "xx", text}.is(t, "one byte more", api.ErrRange)
			question{s, x.p, 0, strings.Repeat("x", x.size+1), text}.is(t, "one byte more than all", api.ErrRange)
			for _, off := range far {
				for _, bytes := range []string{"", "x", "xx", "xxx", strings.Repeat("x", 300)} {
					question{s, x.p, off, bytes, text}.is(t, "far away", api.ErrRange)
				}
			}
		}
	}
}

// Bytes of two leaves need both, one of one leaf needs no other.
func TestOverTheEdgeOfTwoLeaves(t *testing.T) {
	t.Parallel()
	b, s := world(t)
	all := full(1300)
	for _, x := range []struct{ off, n, from, to int }{{0, 256, 0, 256}, {255, 1, 0, 256}, {255, 2, 0, 512}, {256, 1, 256, 512}, {256, 256, 256, 512}, {256, 257, 256, 768}, {511, 1, 256, 512}, {511, 2, 256, 768}} {
		bytes, text := all[x.off:x.off+x.n], b.proof("/long", x.off, x.n)
		if text != b.proof("/long", x.from, x.to-x.from) {
			t.Errorf("%d bytes from %d on need other leaves", x.n, x.off)
		}
		question{s, "/long", x.off, bytes, text}.is(t, "right", api.OK)
		question{s, "/long", x.off, bytes, b.proof("/long", 768, 10)}.is(t, "another leaf", api.ErrTampered)
		question{s, "/long", x.off, bytes, b.proof("/long", x.from, x.to-x.from+1)}.is(t, "a leaf more", api.ErrProof)
		question{s, "/long", x.off, bytes, b.proof("/long", x.off, 0)}.is(t, "no leaf", api.ErrProof)
	}
	for _, n := range []int{1, 2, 255, 256, 257, 300, 512, 513, 1000} {
		for off := range 1300 - n {
			if off%7 < 2 || off%256 < 2 || (off+n)%256 < 2 {
				text := b.proof("/long", off, n)
				if err := (question{s, "/long", off, all[off : off+n], text}).asksCheck(t); err != api.OK {
					t.Fatalf("Check of %d bytes from %d on = %d", n, off, err)
				}
			}
		}
	}
}

// Directories have no bytes, whatever is asked of them.
func TestDirectories(t *testing.T) {
	b, s := world(t)
	_, text := b.list("/none")
	_, five := b.list("/five")
	top := meantCheck(s, "/x", 0, "", five)
	root := five[:top.places[0]]
	for _, off := range []int{0, 1, 320, 5000, math.MaxInt} {
		for _, bytes := range []string{"", "x", strings.Repeat("\x00", 300)} {
			for _, p := range []string{"/", "//", "/.", "/..", "/x/.."} {
				question{s, p, off, bytes, root}.is(t, "the root directory", api.ErrArg)
				question{s, p, off, bytes, root + "junk"}.is(t, "the root directory", api.ErrArg)
			}
			for _, p := range []string{"/none", "/none/", "/none/."} {
				question{s, p, off, bytes, text}.is(t, "an empty directory", api.ErrArg)
				question{s, p, off, bytes, text + text}.is(t, "an empty directory", api.ErrArg)
			}
			question{s, "/five", off, bytes, five}.is(t, "a directory", api.ErrArg)
		}
	}
}

// Paths that go on behind a file meet ErrDir, whatever the text goes on with.
func TestBehindAFile(t *testing.T) {
	b, s := world(t)
	for _, p := range []string{"/empty", "/one", "/d/f", depth(31) + "/n"} {
		text := b.proof(p, 0, 0)
		if strings.Count(p, "/") == 32 {
			p = "/" + strings.Repeat("/n", 31) + "/n"
			question{s, p + "/x/..", 0, "", text}.is(t, "too deep", api.ErrDeep)
			continue
		}
		for _, more := range []string{"/x", "/x/", "/x/y", "/x/y/", "/" + strings.Repeat("z", 56)} {
			for _, text := range []string{text, text + "\x00\x00\x00\x00", text + "\xff\xff\xff\xff", text + strings.Repeat("x", 600), text + text} {
				question{s, p + more, 0, "", text}.is(t, "behind a file", api.ErrDir)
				question{s, p + more, 7, "x", text}.is(t, "behind a file", api.ErrDir)
			}
			question{s, p + more, 0, "", text[:len(text)-1]}.is(t, "behind a file, cut", api.ErrProof)
		}
	}
}

// placed is a text with another place in it.
func placed(text string, at int, place uint32) string {
	return spliced(text, at, string(binary.LittleEndian.AppendUint32(nil, place)))
}

// Each place but the right one is refused, one in the same leaf by the name, one of another leaf by the digest, one behind the entries as it is.
func TestPlacesOfEntries(t *testing.T) {
	t.Parallel()
	b, s := world(t)
	for _, x := range []struct {
		dir  string
		many int
	}{{"/single", 1}, {"/four", 4}, {"/five", 5}, {"/many", 70}} {
		for i := range x.many {
			p := x.dir + numbered(i)
			text := b.proof(p, 0, 5)
			at := meantCheck(s, p, 0, "hello", text).places[1]
			right := binary.LittleEndian.Uint32([]byte(text[at:]))
			if int(right) >= x.many {
				t.Fatalf("the place of %s is %d", p, right)
			}
			for place := range uint32(x.many + 8) {
				want := api.ErrProof
				switch {
				case place == right:
					want = api.OK
				case int(place) < x.many && place/4 != right/4:
					want = api.ErrTampered
				}
				q := question{s, p, 0, "hello", placed(text, at, place)}
				if err := q.asksCheck(t); err != want {
					t.Errorf("Check of %s with the place %d for %d = %d; want %d", p, place, right, err, want)
				}
			}
			for _, place := range []uint32{right + 1<<8, right + 1<<16, right + 1<<24, right + 1<<31, 1 << 31, 1<<31 - 1, math.MaxUint32, math.MaxUint32 - 3} {
				// Nothing is taken by a place that is none: what stands behind has no part.
				for _, more := range []string{text[at+4:], "", "junk", strings.Repeat("x", 999)} {
					q := question{s, p, 0, "hello", placed(text, at, place)[:at+4] + more}
					if err := q.asksCheck(t); err != api.ErrProof {
						t.Errorf("Check of %s with the place %d = %d", p, place, err)
					}
				}
			}
		}
	}
}

// A directory without entries has no place that may be.
func TestPlacesInAnEmptyDirectory(t *testing.T) {
	b, s := world(t)
	_, text := b.list("/none")
	for _, place := range []string{"", "\x00", "\x00\x00\x00", "\x00\x00\x00\x00", "\x01\x00\x00\x00", "\xff\xff\xff\xff"} {
		for _, more := range []string{"", "x", strings.Repeat("x", 256), text} {
			question{s, "/none/x", 0, "", text + place + more}.is(t, "an empty directory", api.ErrProof)
		}
	}
	fresh := building(t, 64)
	_, text = fresh.list("/")
	for _, place := range []string{"", "\x00\x00\x00", "\x00\x00\x00\x00", "\x01\x00\x00\x00"} {
		question{fresh.s.Slot(), "/x", 0, "", text + place}.is(t, "a fresh system", api.ErrProof)
	}
}

// A proof of one name is none of another one, though it may name the same file.
func TestOtherNames(t *testing.T) {
	b, s := world(t)
	var all []string
	for i := range 5 {
		all = append(all, "/five"+numbered(i))
	}
	all = append(all, "/four"+numbered(0), "/single"+numbered(0), "/d/f", "/d/g", "/d/", "/one", "/o", "/onee", "/ONE", "/")
	for _, right := range all[:8] {
		text := b.proof(right, 0, 5)
		for _, p := range all {
			if q := (question{s, p, 0, "hello", text}); p != right && q.asked(t) == api.OK {
				t.Errorf("a proof of %s is one of %s", right, p)
			}
		}
	}
}

// The path of as many names as may be, and its beginnings.
func TestDeepPaths(t *testing.T) {
	t.Parallel()
	b, s := world(t)
	text := b.proof(depth(32), 0, 0)
	met := meantCheck(s, depth(32), 0, "", text)
	if len(met.places) != 32 {
		t.Fatalf("%d places", len(met.places))
	}
	question{s, depth(32), 0, "", text}.is(t, "the deepest", api.OK)
	for many := range 32 {
		part := text[:met.places[many]]
		question{s, depth(many) + "/", 0, "", part}.is(t, "a directory", api.ErrArg)
		question{s, depth(many + 1), 0, "", part}.is(t, "a name too many", api.ErrProof)
		question{s, depth(many) + "/m", 0, "", text}.is(t, "another name", api.ErrProof)
	}
	question{s, depth(33), 0, "", text}.is(t, "too deep", api.ErrDeep)
}

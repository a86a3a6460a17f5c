package proof_test

import (
	"math"
	"testing"

	"signet/api"
	"signet/file"
	"signet/find"
	"signet/proof"
)

// 25.2, 25.4: bytes of files, and their proofs.

// ranges is where ranges of a file begin, and how long they are: at and about the edges of its leaves and its end.
func ranges(size int) (all [][2]int) {
	marks := []int{0, 1, 2, 255, 256, 257, 258, 511, 512, 767, 768, 1024, size/2 - 1, size / 2, size - 257, size - 256, size - 2, size - 1, size}
	for _, off := range marks {
		for _, end := range marks {
			// A range of a great file need not be long.
			if off >= 0 && end >= off && end <= size && (end-off < 20000 || off == 0 && end == size) {
				all = append(all, [2]int{off, end - off})
			}
		}
	}
	return all
}

// files is those of the world, all but the greatest, by their paths.
var files = []string{"/empty", "/one", "/leaf", "/two", "/long", "/holes", "/zeros", "/d/f", "/many" + numbered(69), depth(32)}

func TestMakeOfEveryRange(t *testing.T) {
	t.Parallel()
	b, s := world(t)
	for _, p := range files {
		i, err := find.Lookup(b.s.Inodes(), p)
		b.ok(err)
		for _, at := range ranges(i.Size) {
			off, n := at[0], at[1]
			want, err := file.Read(b.s.Inodes(), i.Number, off, n)
			b.ok(err)
			a := b.follows(s, p, off, n)
			if a.bytes != want || len(a.bytes) != n || a.makeErr != api.OK {
				t.Fatalf("Make of %d bytes of %s from %d on = %d bytes, %d", n, p, off, len(a.bytes), a.makeErr)
			}
		}
	}
}

func TestMakeOfTheGreatestFile(t *testing.T) {
	b, s := world(t)
	c := b.cache(100)
	for _, at := range ranges(api.MaxFile) {
		off, n := at[0], at[1]
		want, _ := b.formats(s, "/great", off, n)
		a := b.ask(c, s, "/great", off, n)
		b.same("/great", a, want)
		b.holds(s, "/great", off, a)
		if len(a.bytes) != n || a.makeErr != api.OK {
			t.Errorf("Make of %d bytes from %d on = %d bytes, %d", n, off, len(a.bytes), a.makeErr)
		}
	}
	bytes, text, err := proof.Make(c, s, "/great", 0, api.MaxFile)
	if len(bytes) != api.MaxFile || bytes[0] != 'a' || bytes[api.MaxFile-1] != 'z' || bytes[700*256:701*256] != full(256) || err != api.OK {
		t.Errorf("Make of all = %d bytes, %d", len(bytes), err)
	}
	// Most ways meet a none: beneath the root that of a node of level 5, 4, .. or 1.
	if many := len(text) / 256; many >= 4096*3 {
		t.Errorf("the proof has %d blocks", many)
	}
}

// A file all of whose leaves are there, as long as a disk has room for it.
func TestMakeOfAWholeFile(t *testing.T) {
	t.Parallel()
	b := building(t, 8192)
	b.file("/f", api.MaxFile, map[int]string{0: full(api.MaxFile)})
	s := b.commit()
	a := b.ask(b.cache(api.MaxCache), s, "/f", 0, api.MaxFile)
	want, _ := b.formats(s, "/f", 0, api.MaxFile)
	b.same("/f", a, want)
	b.holds(s, "/f", 0, a)
	if a.bytes != full(api.MaxFile) || len(a.text) != 256*(1+1+1+1+4096*7)+4 {
		t.Errorf("Make = %d bytes, a text of %d, %d", len(a.bytes), len(a.text), a.makeErr)
	}
}

// The bytes of a range that are not there.
func TestRange(t *testing.T) {
	b, s := world(t)
	sizes := map[string]int{"/empty": 0, "/one": 1, "/leaf": 256, "/two": 257, "/long": 1300, "/great": api.MaxFile, depth(32): 700}
	for p, size := range sizes {
		wrong := [][2]int{{0, size + 1}, {1, size}, {size, 1}, {size + 1, 0}, {size + 1, -1}, {-1, 1}, {-1, 0}, {0, -1}, {size, -1}, {-1, size + 1}, {size + 1, -size - 1}}
		for _, a := range far {
			wrong = append(wrong, [2]int{a, 0}, [2]int{0, a}, [2]int{a, 1}, [2]int{1, a}, [2]int{size, a}, [2]int{a, size})
			for _, b := range far {
				wrong = append(wrong, [2]int{a, b})
			}
		}
		for _, at := range wrong {
			bytes, text, err := proof.Make(b.s.Cache(), s, p, at[0], at[1])
			if bytes != "" || text != "" || err != api.ErrRange {
				t.Errorf("Make of %d bytes of %s from %d on = %q, a text of %d, %d; want ErrRange", at[1], p, at[0], bytes, len(text), err)
			}
		}
		for _, off := range []int{0, size / 2, size} {
			b.follows(s, p, off, min(300, size-off))
			b.follows(s, p, off, 0)
		}
	}
	for _, at := range [][2]int{{0, 1301}, {1301, 0}, {-1, 0}, {0, -1}, {math.MaxInt, math.MaxInt}, {math.MinInt, math.MinInt}} {
		if a := b.follows(s, "/long", at[0], at[1]); a.makeErr != api.ErrRange || a.size != 1300 {
			t.Errorf("%d bytes from %d on: %d", at[1], at[0], a.makeErr)
		}
	}
}

// Of a directory there are no bytes, whatever the range, though it has a size.
func TestMakeOfDirectories(t *testing.T) {
	b, s := world(t)
	for _, p := range []string{"/", "/none", "/four", "/many", "/many/", "/d/..", depth(31)} {
		for _, at := range [][2]int{{0, 0}, {0, 1}, {0, 64}, {64, 64}, {0, 5000}, {-1, 0}, {0, -1}, {math.MaxInt, math.MaxInt}} {
			if a := b.follows(s, p, at[0], at[1]); a.makeErr != api.ErrArg || a.inodeErr != api.OK {
				t.Errorf("Make of %s = %d; want ErrArg", p, a.makeErr)
			}
		}
	}
}

// How many blocks and places a proof has, counted without reading: 47 inodes are in 12 leaves, beneath nodes of two levels.
func TestHowLongProofsAre(t *testing.T) {
	b, s := world(t)
	inode, entryOfRoot := 3, 2
	for _, c := range []struct {
		p            string
		off, n       int
		blocks, more int
	}{
		{"/empty", 0, 0, 1 + 2*inode + entryOfRoot, 1},
		{"/one", 0, 0, 1 + 2*inode + entryOfRoot, 1},
		{"/one", 1, 0, 1 + 2*inode + entryOfRoot, 1},
		{"/one", 0, 1, 1 + 2*inode + entryOfRoot + 1, 1},
		{"/leaf", 0, 256, 1 + 2*inode + entryOfRoot + 1, 1},
		{"/two", 0, 256, 1 + 2*inode + entryOfRoot + 2, 1},
		{"/two", 256, 1, 1 + 2*inode + entryOfRoot + 2, 1},
		{"/two", 0, 257, 1 + 2*inode + entryOfRoot + 4, 1},
		{"/two", 255, 2, 1 + 2*inode + entryOfRoot + 4, 1},
		{"/two", 257, 0, 1 + 2*inode + entryOfRoot, 1},
		{"/long", 0, 1300, 1 + 2*inode + entryOfRoot + 6*3, 1},
		{"/long", 255, 258, 1 + 2*inode + entryOfRoot + 3*3, 1},
		{"/long", 256, 256, 1 + 2*inode + entryOfRoot + 3, 1},
		// A way that meets a none: at the file's root, at its first node, at the leaf.
		{"/zeros", 0, 5000, 1 + 2*inode + entryOfRoot, 1},
		{"/holes", 0, 1, 1 + 2*inode + entryOfRoot + 3, 1},
		{"/holes", 3 * 256, 1, 1 + 2*inode + entryOfRoot + 4, 1},
		{"/holes", 4 * 256, 1, 1 + 2*inode + entryOfRoot + 2, 1},
		{"/holes", 16 * 256, 1, 1 + 2*inode + entryOfRoot + 3, 1},
		{"/holes", 18 * 256, 1, 1 + 2*inode + entryOfRoot + 4, 1},
		{"/holes", 20 * 256, 30, 1 + 2*inode + entryOfRoot + 2, 1},
		{"/great", 2 * 256, 1, 1 + 2*inode + entryOfRoot + 6, 1},
		{"/great", 600 * 256, 1, 1 + 2*inode + entryOfRoot + 3, 1},
		{"/great", 2048 * 256, 1, 1 + 2*inode + entryOfRoot + 1, 1},
		// An entry in a leaf of a directory of one leaf, and of a tree of three levels.
		{"/d/f", 0, 5, 1 + 3*inode + entryOfRoot + 1 + 1, 2},
		{"/many" + numbered(0), 0, 5, 1 + 3*inode + entryOfRoot + 4 + 1, 2},
		{"/many" + numbered(69), 0, 0, 1 + 3*inode + entryOfRoot + 4, 2},
		{depth(32), 0, 700, 1 + 33*inode + entryOfRoot + 31 + 3*2, 32},
	} {
		a := b.follows(s, c.p, c.off, c.n)
		if want := 256*c.blocks + 4*c.more; len(a.text) != want || a.makeErr != api.OK {
			t.Errorf("the proof of %d bytes of %s from %d on has %d bytes, %d; want %d", c.n, c.p, c.off, len(a.text), a.makeErr, want)
		}
	}
}

// A proof of no bytes is the beginning of each proof of that path.
func TestProofsBeginAlike(t *testing.T) {
	b, s := world(t)
	for _, p := range []string{"/long", "/holes", "/d/f", depth(32)} {
		none := b.follows(s, p, 0, 0).text
		some := b.follows(s, p, 2, 3).text
		if len(some) <= len(none) || some[:len(none)] != none || b.follows(s, p, 5, 0).text != none {
			t.Errorf("of %s the proofs of no bytes and of three begin otherwise", p)
		}
	}
}

// Paths that name the same by the same names have the same proof.
func TestProofsOfTheSameNames(t *testing.T) {
	b, s := world(t)
	want := b.follows(s, "/d/f", 1, 3)
	for _, p := range []string{"//d//f", "/d/./f", "/one/../d/f", "/d/x/../f", "/../d/f"} {
		b.same(p, b.ask(b.cache(3), s, p, 1, 3), want)
	}
	// By another name it is another one.
	if a := b.follows(s, "/four"+numbered(2), 1, 3); a.bytes != want.bytes || a.number != want.number || a.text == want.text {
		t.Error("by another name the file is another one, or its proof the same")
	}
}

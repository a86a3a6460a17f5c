package verify_test

import (
	"math"
	"slices"
	"strings"
	"testing"

	"signet/api"
	"signet/branch"
	"signet/commit"
	"signet/digest"
	"signet/disk"
	"signet/file"
	"signet/find"
	"signet/mount"
	"signet/proof"
	"signet/slot"
	"signet/verify"
)

// build is a system that changes, and what proofs are made of.
type build struct {
	t *testing.T
	d *disk.Disk
	r *slot.Register
	l *digest.Log
	s *commit.State
}

// building is a formatted system that changes.
func building(t *testing.T, blocks int) build {
	t.Helper()
	d, err := disk.New(blocks)
	b := build{t: t, d: d, l: digest.NewLog()}
	b.ok(err)
	b.r = slot.New(d)
	b.ok(mount.Format(d, b.r, b.l))
	b.s, err = mount.Mount(d, b.r, b.l, 100)
	b.ok(err)
	return b
}

// ok asks that calls were OK.
func (b build) ok(errs ...api.Errno) {
	b.t.Helper()
	for _, err := range errs {
		if err != api.OK {
			b.t.Fatalf("error %d", err)
		}
	}
}

// dir makes directories.
func (b build) dir(paths ...string) {
	b.t.Helper()
	for _, p := range paths {
		_, err := branch.Mkdir(b.s.Inodes(), p, b.s.Stamp())
		b.ok(err)
	}
}

// file makes a file of so many bytes, in which some texts stand.
func (b build) file(p string, size int, texts map[int]string) {
	b.t.Helper()
	n, err := branch.Create(b.s.Inodes(), p, b.s.Stamp())
	b.ok(err, file.Truncate(b.s.Inodes(), n, size, b.s.Stamp()))
	b.write(p, texts)
}

// write writes texts into a file.
func (b build) write(p string, texts map[int]string) {
	b.t.Helper()
	i, err := find.Lookup(b.s.Inodes(), p)
	b.ok(err)
	for at, text := range texts {
		_, err := file.Write(b.s.Inodes(), i.Number, at, text, b.s.Stamp())
		b.ok(err)
	}
}

// links names a file so often, by the numbers from 0 on.
func (b build) links(old, above string, many int) {
	b.t.Helper()
	for i := range many {
		b.ok(branch.Link(b.s.Inodes(), old, above+numbered(i), b.s.Stamp()))
	}
}

// commit commits, and tells the slot.
func (b build) commit() api.Slot {
	b.t.Helper()
	b.ok(b.s.Commit())
	return b.s.Slot()
}

// proof is the proof of a range of a file.
func (b build) proof(p string, off, n int) string {
	b.t.Helper()
	_, text, err := proof.Make(b.s.Cache(), b.s.Slot(), p, off, n)
	b.ok(err)
	return text
}

// bytes is the bytes of a range of a file.
func (b build) bytes(p string, off, n int) string {
	b.t.Helper()
	bytes, _, err := proof.Make(b.s.Cache(), b.s.Slot(), p, off, n)
	b.ok(err)
	return bytes
}

// list is the entries of a directory, and their proof.
func (b build) list(p string) ([]api.Link, string) {
	b.t.Helper()
	links, text, err := proof.List(b.s.Cache(), b.s.Slot(), p)
	b.ok(err)
	return links, text
}

// numbered is a name behind a slash, whose order by bytes is not that of the numbers.
func numbered(i int) string {
	return "/" + strings.Repeat(string(rune('a'+i*7%26)), 1+i%5) + string(rune('0'+i/26)) + string(rune('0'+i%26))
}

// full is bytes of which no 256 are zero and no two neighbours the same.
func full(many int) string {
	b := make([]byte, many)
	for i := range b {
		b[i] = byte(1 + i%251)
	}
	return string(b)
}

// depth is a path of so many names.
func depth(many int) string { return strings.Repeat("/n", many) }

// junk is a block that no tree has here, and unlike that of any other number.
func junk(n uint32) api.Block {
	return api.Block{0: 0xee, 50: byte(n), 51: byte(n >> 8), 255: 0xcc}
}

// turned is a text with one bit turned over.
func turned(text string, bit int) string {
	b := []byte(text)
	b[bit/8] ^= 1 << (bit % 8)
	return string(b)
}

// spliced is a text with other bytes in it.
func spliced(text string, at int, bytes string) string {
	return text[:at] + bytes + text[at+len(bytes):]
}

// small is a system with one directory and one file, committed, and its slot.
func small(t *testing.T) (build, api.Slot) {
	t.Helper()
	b := building(t, 64)
	b.dir("/d")
	b.file("/d/f", 5, map[int]string{0: "hello"})
	return b, b.commit()
}

// world is a system with directories and files of all kinds, committed, and its slot.
func world(t *testing.T) (build, api.Slot) {
	t.Helper()
	b := building(t, 2048)
	for many := range api.MaxDepth - 1 {
		b.dir(depth(many + 1))
	}
	b.file(depth(api.MaxDepth), 700, map[int]string{0: full(700)})
	b.file("/empty", 0, nil)
	b.file("/one", 1, map[int]string{0: "x"})
	b.file("/leaf", 256, map[int]string{0: full(256)})
	b.file("/two", 257, map[int]string{0: full(257)})
	b.file("/long", 1300, map[int]string{0: full(1300)})
	b.file("/holes", 20*256+30, map[int]string{3*256 + 10: full(200), 17 * 256: full(300)})
	b.file("/zeros", 5000, nil)
	b.file("/great", api.MaxFile, map[int]string{0: "a", 700 * 256: full(256), api.MaxFile - 1: "z"})
	b.dir("/d", "/none", "/single", "/four", "/five", "/many")
	b.file("/d/f", 5, map[int]string{0: "hello"})
	b.links("/d/f", "/single", 1)
	b.links("/d/f", "/four", 4)
	b.links("/d/f", "/five", 5)
	b.links("/d/f", "/many", 70)
	return b, b.commit()
}

// far is numbers that with a length are beyond an int, and what is near them.
var far = []int{math.MaxInt - 1, math.MaxInt}

// question is what may be asked of a text.
type question struct {
	s     api.Slot
	p     string
	off   int
	bytes string
	text  string
}

// asked asks all calls, each with a nil log and with a new one, which must tell what the chapter says; it answers what Check is told.
func (q question) asked(t *testing.T) api.Errno {
	t.Helper()
	q.asksRoot(t)
	q.asksList(t)
	q.asksMissing(t)
	q.asksSize(t)
	return q.asksCheck(t)
}

// logged asks with a nil log and with a new one, which must have just what was digested, as blocks.
func logged(t *testing.T, what string, want told, ask func(l *digest.Log)) {
	t.Helper()
	ask(nil)
	l := digest.NewLog()
	ask(l)
	for i, s := range want.digested {
		if x, there := l.At(i); !there || x != (api.Entry{Tag: api.TagBlock, Text: s}) {
			t.Fatalf("%s: entry %d of the log is another one", what, i)
		}
	}
	if l.Len() != len(want.digested) {
		t.Fatalf("%s: %d blocks were digested; want %d", what, l.Len(), len(want.digested))
	}
}

// asksRoot asks Root.
func (q question) asksRoot(t *testing.T) {
	t.Helper()
	want := meantRoot(q.s, q.text)
	logged(t, "Root", want, func(l *digest.Log) {
		t.Helper()
		if root, err := verify.Root(l, q.s, q.text); root != want.root || err != want.err {
			t.Fatalf("Root of a text of %d = %+v, %d; want %+v, %d", len(q.text), root, err, want.root, want.err)
		}
	})
}

// asksCheck asks Check.
func (q question) asksCheck(t *testing.T) api.Errno {
	t.Helper()
	want := meantCheck(q.s, q.p, q.off, q.bytes, q.text)
	logged(t, "Check of "+q.p, want, func(l *digest.Log) {
		t.Helper()
		if err := verify.Check(l, q.s, q.p, q.off, q.bytes, q.text); err != want.err {
			t.Fatalf("Check of %s, %d, %d bytes, a text of %d = %d; want %d", q.p, q.off, len(q.bytes), len(q.text), err, want.err)
		}
	})
	return want.err
}

// asksSize asks Size and Taken.
func (q question) asksSize(t *testing.T) {
	t.Helper()
	want := meantCheck(q.s, q.p, 0, "", q.text)
	size, taken := want.inode.Size, len(want.blocks)
	if want.err != api.OK {
		size, taken = 0, 0
	}
	logged(t, "Size of "+q.p, want, func(l *digest.Log) {
		t.Helper()
		if n, err := verify.Size(l, q.s, q.p, q.text); n != size || err != want.err {
			t.Fatalf("Size of %s, a text of %d = %d, %d; want %d, %d", q.p, len(q.text), n, err, size, want.err)
		}
	})
	logged(t, "Taken of "+q.p, want, func(l *digest.Log) {
		t.Helper()
		if n, err := verify.Taken(l, q.s, q.p, q.text); n != taken || err != want.err {
			t.Fatalf("Taken of %s, a text of %d = %d, %d; want %d, %d", q.p, len(q.text), n, err, taken, want.err)
		}
	})
}

// asksList asks List and CheckList, of the right entries and of others.
func (q question) asksList(t *testing.T) {
	t.Helper()
	want := meantList(q.s, q.p, q.text)
	logged(t, "List of "+q.p, want, func(l *digest.Log) {
		t.Helper()
		if links, err := verify.List(l, q.s, q.p, q.text); !slices.Equal(links, want.links) || err != want.err {
			t.Fatalf("List of %s, a text of %d = %v, %d; want %v, %d", q.p, len(q.text), links, err, want.links, want.err)
		}
	})
	wrong := want.err
	if wrong == api.OK {
		wrong = api.ErrClaim
	}
	for i, links := range [][]api.Link{want.links, append(slices.Clone(want.links), api.Link{Inode: 1, Name: "~"})} {
		err := []api.Errno{want.err, wrong}[i]
		logged(t, "CheckList of "+q.p, want, func(l *digest.Log) {
			t.Helper()
			if got := verify.CheckList(l, q.s, q.p, links, q.text); got != err {
				t.Fatalf("CheckList of %s, a text of %d, %v = %d; want %d", q.p, len(q.text), links, got, err)
			}
		})
	}
}

// asksMissing asks CheckMissing of the path, and of one that goes on behind it.
func (q question) asksMissing(t *testing.T) {
	t.Helper()
	for _, p := range []string{q.p, q.p + "/~"} {
		want := meantMissing(q.s, p, q.text)
		logged(t, "CheckMissing of "+p, want, func(l *digest.Log) {
			t.Helper()
			if err := verify.CheckMissing(l, q.s, p, q.text); err != want.err {
				t.Fatalf("CheckMissing of %s, a text of %d = %d; want %d", p, len(q.text), err, want.err)
			}
		})
	}
}

// is asks all calls, and that Check is told this error.
func (q question) is(t *testing.T, what string, want api.Errno) {
	t.Helper()
	if err := q.asked(t); err != want {
		t.Errorf("%s: Check of %s, %d, %d bytes, a text of %d = %d; want %d", what, q.p, q.off, len(q.bytes), len(q.text), err, want)
	}
}

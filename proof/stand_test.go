package proof_test

import (
	"math"
	"slices"
	"strings"
	"testing"

	"signet/api"
	"signet/branch"
	"signet/cache"
	"signet/commit"
	"signet/digest"
	"signet/disk"
	"signet/file"
	"signet/find"
	"signet/mount"
	"signet/node"
	"signet/proof"
	"signet/slot"
)

// rig is a disk, its register, and the log of all that is digested.
type rig struct {
	t *testing.T
	d *disk.Disk
	r *slot.Register
	l *digest.Log
}

// empty is a new disk and a fresh register.
func empty(t *testing.T, blocks int) rig {
	t.Helper()
	d, err := disk.New(blocks)
	if err != api.OK {
		t.Fatalf("a disk of %d blocks: error %d", blocks, err)
	}
	return rig{t, d, slot.New(d), digest.NewLog()}
}

// formatted is a rig with a fresh tree.
func formatted(t *testing.T, blocks int) rig {
	t.Helper()
	g := empty(t, blocks)
	g.ok(mount.Format(g.d, g.r, g.l))
	return g
}

// ok asks that calls were OK.
func (g rig) ok(errs ...api.Errno) {
	g.t.Helper()
	for _, err := range errs {
		if err != api.OK {
			g.t.Fatalf("error %d", err)
		}
	}
}

// mount is the system that is mounted.
func (g rig) mount(cached int) *commit.State {
	g.t.Helper()
	s, err := mount.Mount(g.d, g.r, g.l, cached)
	g.ok(err)
	return s
}

// cache is a new cache over the disk.
func (g rig) cache(room int) *cache.Cache {
	g.t.Helper()
	c, err := cache.New(g.d, g.l, room)
	g.ok(err)
	return c
}

// slot is the slot that the register has, with power or without.
func (g rig) slot() api.Slot {
	all := g.r.Written()
	return all[len(all)-1]
}

// put lays a block raw, and tells its reference.
func (g rig) put(at uint32, b api.Block) api.Ref {
	g.t.Helper()
	g.ok(g.d.Write(int(at), b))
	return node.Of(nil, at, b)
}

// dies cuts the power.
func (g rig) dies() {
	g.d.Cut(api.Cut{Event: g.d.Events()})
	g.d.Event()
}

// over writes blocks over with what nothing here has.
func (g rig) over(blocks ...uint32) {
	g.t.Helper()
	image := g.d.Image()
	for _, at := range blocks {
		image[at] = junk(at)
	}
	g.ok(g.d.Load(image))
}

// junk is a block that no tree has here, and unlike that of any other number.
func junk(n uint32) api.Block {
	return api.Block{0: 0xee, 50: byte(n), 51: byte(n >> 8), 255: 0xcc}
}

// standing is what can be told of a rig without reading raw.
type standing struct {
	image  []api.Block
	slots  []api.Slot
	events int
	logged int
}

// stands is what a rig is.
func (g rig) stands() standing {
	return standing{g.d.Image(), g.r.Written(), g.d.Events(), len(g.d.Log())}
}

// unwritten asks that nothing but raw reads was done to a rig since.
func (g rig) unwritten(what string, then standing) {
	g.t.Helper()
	for _, raw := range g.d.Log()[then.logged:] {
		if raw.Kind != api.RawRead {
			g.t.Fatalf("%s did a raw %d of the block %d", what, raw.Kind, raw.At)
		}
	}
	if !slices.Equal(g.d.Image(), then.image) || !slices.Equal(g.r.Written(), then.slots) || g.d.Events() != then.events {
		g.t.Fatalf("%s wrote something", what)
	}
}

// unread asks that not even a raw read was done.
func (g rig) unread(what string, then standing) {
	g.t.Helper()
	g.unwritten(what, then)
	if many := len(g.d.Log()) - then.logged; many > 0 {
		g.t.Fatalf("%s read %d blocks", what, many)
	}
}

// answers is what all calls that read tell of a path and a range.
type answers struct {
	number   int
	inode    api.Inode
	inodeErr api.Errno

	size    int
	sizeErr api.Errno

	bytes, text string
	makeErr     api.Errno

	links   []api.Link
	list    string
	listErr api.Errno
}

// ask asks all calls of a path and a range, which must write nothing.
func (g rig) ask(c *cache.Cache, s api.Slot, p string, off, n int) answers {
	g.t.Helper()
	events, swings := g.d.Events(), g.r.Swings()
	var a answers
	a.number, a.inode, a.inodeErr = proof.Inode(c, s, p)
	a.size, a.sizeErr = proof.Size(c, s, p)
	a.bytes, a.text, a.makeErr = proof.Make(c, s, p, off, n)
	a.links, a.list, a.listErr = proof.List(c, s, p)
	if g.d.Events() != events || g.r.Swings() != swings {
		g.t.Fatalf("a call of %s wrote something", p)
	}
	return a
}

// fails is what all calls tell, where they have one error.
func fails(err api.Errno) answers {
	return answers{inodeErr: err, sizeErr: err, makeErr: err, listErr: err}
}

// same asks that the answers are these.
func (g rig) same(what string, got, want answers) {
	g.t.Helper()
	if got.number != want.number || got.inode != want.inode || got.inodeErr != want.inodeErr {
		g.t.Fatalf("%s: Inode = %d, %+v, %d; want %d, %+v, %d", what, got.number, got.inode, got.inodeErr, want.number, want.inode, want.inodeErr)
	}
	if got.size != want.size || got.sizeErr != want.sizeErr {
		g.t.Fatalf("%s: Size = %d, %d; want %d, %d", what, got.size, got.sizeErr, want.size, want.sizeErr)
	}
	if got.bytes != want.bytes || got.text != want.text || got.makeErr != want.makeErr {
		g.t.Fatalf("%s: Make = %d bytes, a text of %d, %d; want %d, %d, %d", what, len(got.bytes), len(got.text), got.makeErr, len(want.bytes), len(want.text), want.makeErr)
	}
	if !slices.Equal(got.links, want.links) || got.list != want.list || got.listErr != want.listErr {
		g.t.Fatalf("%s: List = %v, a text of %d, %d; want %v, %d, %d", what, got.links, len(got.list), got.listErr, want.links, len(want.list), want.listErr)
	}
}

// follows asks that all calls tell of a path and a range what the formats say, with caches of all rooms, and answers that.
func (g rig) follows(s api.Slot, p string, off, n int) answers {
	g.t.Helper()
	want, _ := g.formats(s, p, off, n)
	for _, room := range []int{0, 1, api.MaxCache} {
		g.same(p, g.ask(g.cache(room), s, p, off, n), want)
	}
	g.holds(s, p, off, want)
	return want
}

// holds asks that what was made is taken by somebody who knows the slot alone, and is no longer than it may be.
func (g rig) holds(s api.Slot, p string, off int, a answers) {
	g.t.Helper()
	if a.makeErr == api.OK {
		if !takes(s, p, off, a.bytes, a.text) {
			g.t.Fatalf("the proof of %d bytes of %s from %d on is not taken", len(a.bytes), p, off)
		}
		g.short(p, len(a.bytes), a.text)
	}
	if a.listErr == api.OK && !takesList(s, p, a.links, a.list) {
		g.t.Fatalf("the proof of the list of %s is not taken", p)
	}
}

// short asks that a proof of a range is no longer than Longest says, and that Blocks counts its blocks.
func (g rig) short(p string, n int, text string) {
	g.t.Helper()
	names := len(namesOf(g.t, p))
	longest, err := proof.Longest(names, n)
	g.ok(err)
	if len(text) > longest {
		g.t.Fatalf("a proof of %d bytes of %s has %d bytes, and at most %d", n, p, len(text), longest)
	}
	if blocks, err := proof.Blocks(text); blocks != (len(text)-4*names)/256+4*names/256 || err != api.OK {
		g.t.Fatalf("Blocks of a proof of %d bytes = %d, %d", len(text), blocks, err)
	}
}

// full is bytes of which no 256 are zero and no two neighbours the same.
func full(many int) string {
	b := make([]byte, many)
	for i := range b {
		b[i] = byte(1 + i%251)
	}
	return string(b)
}

// build is a system that changes.
type build struct {
	rig
	s *commit.State
}

// building is a formatted system that changes.
func building(t *testing.T, blocks int) build {
	t.Helper()
	g := formatted(t, blocks)
	return build{g, g.mount(100)}
}

// dir makes directories.
func (b build) dir(paths ...string) {
	b.t.Helper()
	for _, p := range paths {
		_, err := branch.Mkdir(b.s.Inodes(), p, b.s.Stamp())
		b.ok(err)
	}
}

// file makes a file of so many bytes, in which some texts stand.
func (b build) file(p string, size int, texts map[int]string) {
	b.t.Helper()
	n, err := branch.Create(b.s.Inodes(), p, b.s.Stamp())
	b.ok(err, file.Truncate(b.s.Inodes(), n, size, b.s.Stamp()))
	b.write(p, texts)
}

// write writes texts into a file.
func (b build) write(p string, texts map[int]string) {
	b.t.Helper()
	i, err := find.Lookup(b.s.Inodes(), p)
	b.ok(err)
	for at, text := range texts {
		_, err := file.Write(b.s.Inodes(), i.Number, at, text, b.s.Stamp())
		b.ok(err)
	}
}

// links names a file so often, by the numbers from 0 on.
func (b build) links(old, above string, many int) {
	b.t.Helper()
	for i := range many {
		b.ok(branch.Link(b.s.Inodes(), old, above+numbered(i), b.s.Stamp()))
	}
}

// numbered is a name behind a slash, whose order by bytes is not that of the numbers.
func numbered(i int) string {
	return "/" + strings.Repeat(string(rune('a'+i*7%26)), 1+i%5) + string(rune('0'+i/26)) + string(rune('0'+i%26))
}

// commit commits, and tells the slot.
func (b build) commit() api.Slot {
	b.t.Helper()
	b.ok(b.s.Commit())
	return b.s.Slot()
}

// depth is a path of so many names.
func depth(many int) string {
	return strings.Repeat("/n", many)
}

// world is a system with directories and files of all kinds, committed, and its slot.
func world(t *testing.T) (build, api.Slot) {
	t.Helper()
	b := building(t, 2048)
	for many := range api.MaxDepth - 1 {
		b.dir(depth(many + 1))
	}
	b.file(depth(api.MaxDepth), 700, map[int]string{0: full(700)})
	b.file("/empty", 0, nil)
	b.file("/one", 1, map[int]string{0: "x"})
	b.file("/leaf", 256, map[int]string{0: full(256)})
	b.file("/two", 257, map[int]string{0: full(257)})
	b.file("/long", 1300, map[int]string{0: full(1300)})
	b.file("/holes", 20*256+30, map[int]string{3*256 + 10: full(200), 17 * 256: full(300)})
	b.file("/zeros", 5000, nil)
	b.file("/great", api.MaxFile, map[int]string{0: "a", 700 * 256: full(256), api.MaxFile - 1: "z"})
	b.dir("/d", "/none", "/four", "/five", "/many")
	b.file("/d/f", 5, map[int]string{0: "hello"})
	b.links("/d/f", "/four", 4)
	b.links("/d/f", "/five", 5)
	b.links("/d/f", "/many", 70)
	return b, b.commit()
}

// far is numbers that together are beyond an int, and what is near them.
var far = []int{math.MinInt, math.MinInt + 1, -1, math.MaxInt - 1, math.MaxInt}

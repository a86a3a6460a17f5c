package commit_test

import (
	"maps"
	"slices"
	"strings"
	"testing"

	"signet/api"
	"signet/cache"
	"signet/commit"
	"signet/digest"
	"signet/disk"
	"signet/inodes"
	"signet/room"
	"signet/slot"
)

const (
	file = api.KindFile
	dir  = api.KindDir
)

// layout is the numbers of the first blocks that are used on a disk of so many.
type layout func(blocks, i int) uint32

// scattered is blocks near the disk's beginning, with free ones between them.
func scattered(blocks, i int) uint32 { return uint32(2 + 3*i) }

// atTheEnd is the disk's last blocks.
func atTheEnd(blocks, i int) uint32 { return uint32(blocks - 1 - i) }

// formatted is a fresh tree on a new disk, written by the formats alone, and the register that names it.
func formatted(t *testing.T, blocks int, where layout) (*disk.Disk, *slot.Register) {
	t.Helper()
	d, err := disk.New(blocks)
	if err != api.OK {
		t.Fatal(err)
	}
	many := 0
	put := func(b api.Block) api.Ref {
		x := api.Ref{At: where(blocks, many), Sum: sumOf(b)}
		many++
		if err := d.Write(int(x.At), b); err != api.OK {
			t.Fatal(err)
		}
		return x
	}
	root := api.Super{Blocks: blocks, Counter: 1, Table: api.Tree{Root: put(firstTable())}, Inodes: 1, Used: mapBlocks(blocks) + 2}
	var used []uint32
	for i := range root.Used {
		used = append(used, where(blocks, i))
	}
	root.Map = laidMap(blocks, used, put)
	ref := put(rootBytes(root))
	r := slot.New(d)
	if err := r.Write(api.Slot{Counter: 1, Root: ref}); err != api.OK {
		t.Fatal(err)
	}
	return d, r
}

// laidMap is the tree of a map with the bits of these blocks.
func laidMap(blocks int, used []uint32, put func(api.Block) api.Ref) api.Tree {
	leaves := make([]api.Block, mapLeaves(blocks))
	for i := range leaves {
		copy(leaves[i][:], "bits")
		low.PutUint32(leaves[i][4:], uint32(i))
	}
	for _, at := range used {
		leaves[at/1024][128+at%1024/8] |= 1 << (at % 8)
	}
	var level []api.Ref
	for _, b := range leaves {
		level = append(level, put(b))
	}
	height := 0
	for ; len(level) > 1; height++ {
		var above []api.Ref
		for four := range slices.Chunk(level, 4) {
			b := api.Block{'n', 'o', 'd', 'e', byte(height + 1)}
			for i, kid := range four {
				layRef(&b, 8+36*i, kid)
			}
			above = append(above, put(b))
		}
		level = above
	}
	return api.Tree{Height: height, Root: level[0]}
}

// parts is what a state stands on.
type parts struct {
	r    *slot.Register
	c    *cache.Cache
	slot api.Slot
	root api.Super
	m    *room.Room
	x    *inodes.Inodes
}

// state is a state on these parts.
func (p parts) state() (*commit.State, api.Errno) {
	return commit.New(p.r, p.c, p.slot, p.root, p.m, p.x)
}

// partsOf is the parts of what a register names on a disk, with a cache that has room for so many, and what is committed there.
func partsOf(t *testing.T, d *disk.Disk, r *slot.Register, l *digest.Log, cached int) (parts, form) {
	t.Helper()
	s, err := r.Read()
	if err != api.OK {
		t.Fatal(err)
	}
	f, root, used := whole(t, d.Image(), s)
	c, err := cache.New(d, l, cached)
	if err != api.OK {
		t.Fatal(err)
	}
	m, _, err := room.New(root.Blocks, slices.Sorted(maps.Keys(used)))
	if err != api.OK {
		t.Fatal(err)
	}
	x, err := inodes.Open(c, root.Table, root.Inodes)
	if err != api.OK {
		t.Fatal(err)
	}
	return parts{r, c, s, root, m, x}, f
}

// system is a state, what it stands on, and the same without a disk.
type system struct {
	t        *testing.T
	d        *disk.Disk
	r        *slot.Register
	log      *digest.Log
	s        *commit.State
	was, now form // the committed form and the working one
}

// made is a system with a fresh tree.
func made(t *testing.T, blocks, cached int, where layout) *system {
	t.Helper()
	d, r := formatted(t, blocks, where)
	return mounted(t, d, r, cached)
}

// mounted is the system that a register names on a disk.
func mounted(t *testing.T, d *disk.Disk, r *slot.Register, cached int) *system {
	t.Helper()
	k := &system{t: t, d: d, r: r, log: digest.NewLog()}
	p, f := partsOf(t, d, r, k.log, cached)
	s, err := p.state()
	if s == nil || err != api.OK {
		t.Fatalf("New = %v, %d", s, err)
	}
	k.s, k.was, k.now = s, f, maps.Clone(f)
	return k
}

// ok asks that calls were OK.
func (k *system) ok(errs ...api.Errno) {
	k.t.Helper()
	for _, err := range errs {
		if err != api.OK {
			k.t.Fatalf("error %d", err)
		}
	}
}

// full is a leaf that is unlike that of any other number, with its first and its last byte not zero.
func full(n int) api.Block {
	return api.Block{0: 1, 1: byte(n), 2: byte(n >> 8), 128: 3, 255: 1}
}

// junk is a block that no tree has here.
func junk() api.Block {
	return api.Block{0: 0xee, 100: 0xdd, 255: 0xcc}
}

// make makes inodes of a kind.
func (k *system) make(kind, many int) {
	k.t.Helper()
	for range many {
		n, err := k.s.Inodes().Make(kind, k.s.Stamp())
		k.ok(err)
		k.now[n] = thing{kind: kind, links: 1, stamp: k.s.Stamp()}
	}
}

// change changes an inode of the working form.
func (k *system) change(n int, do func(x *thing)) {
	x := k.now[n]
	do(&x)
	x.stamp = k.s.Stamp()
	k.now[n] = x
}

// size makes an inode so long.
func (k *system) size(n, size int) {
	k.t.Helper()
	k.ok(k.s.Inodes().Resize(n, size, k.s.Stamp()))
	k.change(n, func(x *thing) { x.text = (x.text + strings.Repeat("\x00", size))[:size] })
}

// set lays a leaf of an inode.
func (k *system) set(n, place int, b api.Block) {
	k.t.Helper()
	k.ok(k.s.Inodes().Set(n, place, b, k.s.Stamp()))
	k.change(n, func(x *thing) {
		text := []byte(x.text)
		copy(text[256*place:], b[:])
		x.text = string(text)
	})
}

// fill makes an inode so many leaves long, all of which are there.
func (k *system) fill(n, leaves int) {
	k.t.Helper()
	k.size(n, 256*leaves)
	for place := range leaves {
		k.set(n, place, full(100*n+place))
	}
}

// links changes how many entries name an inode.
func (k *system) links(n, by int) {
	k.t.Helper()
	k.ok(k.s.Inodes().Links(n, by, k.s.Stamp()))
	k.change(n, func(x *thing) { x.links += by })
}

// touch lays an inode's stamp.
func (k *system) touch(n int) {
	k.t.Helper()
	k.ok(k.s.Inodes().Touch(n, k.s.Stamp()))
	k.change(n, func(*thing) {})
}

// drop takes inodes out of use.
func (k *system) drop(numbers ...int) {
	k.t.Helper()
	for _, n := range numbers {
		k.ok(k.s.Inodes().Drop(n))
		delete(k.now, n)
	}
}

// commit commits, which must be OK, and asks that all is as it must be behind it.
func (k *system) commit() {
	k.t.Helper()
	from, ahead, used := len(k.d.Log()), tell(k.s), k.used()
	many := newOf(k.was, k.now, k.d.Blocks())
	if err := k.s.Commit(); err != api.OK {
		k.t.Fatalf("Commit = %d", err)
	}
	k.ordered(k.d.Log()[from:], many, used)
	if many > 0 {
		k.was = maps.Clone(k.now)
	}
	k.behind(ahead, many)
}

// used is the blocks that the committed tree uses, by the room.
func (k *system) used() map[uint32]bool {
	used := map[uint32]bool{}
	for _, at := range k.s.Room().List(api.RoomUsed) {
		used[at] = true
	}
	return used
}

// ordered asks that what took place on the disk are reads, so many writes to blocks that are free, each to another one, a barrier, and a swing.
func (k *system) ordered(raw []api.Raw, many int, used map[uint32]bool) {
	k.t.Helper()
	for len(raw) > 0 && raw[0].Kind == api.RawRead {
		raw = raw[1:]
	}
	if many == 0 {
		if len(raw) > 0 {
			k.t.Fatalf("a raw %d of the block %d, where nothing is new", raw[0].Kind, raw[0].At)
		}
		return
	}
	met := map[int]bool{}
	for len(raw) > 0 && raw[0].Kind == api.RawWrite {
		if at := raw[0].At; at == 0 || used[uint32(at)] || met[at] {
			k.t.Fatalf("the block %d is written, and used already: %v, and written already: %v", at, used[uint32(at)], met[at])
		}
		met[raw[0].At] = true
		raw = raw[1:]
	}
	if len(met) != many {
		k.t.Fatalf("%d blocks are written; want %d", len(met), many)
	}
	if len(raw) != 2 || raw[0].Kind != api.RawBarrier || raw[1].Kind != api.RawSwing {
		k.t.Fatalf("behind the writes there are %v; want a barrier and a swing", raw)
	}
}

// behind asks that all is as it must be behind a commit that was OK, ahead of which the state told that, and so many blocks would be new.
func (k *system) behind(ahead told, many int) {
	k.t.Helper()
	got := tell(k.s)
	if many == 0 {
		k.same("behind a commit of nothing", got, ahead)
		return
	}
	s, err := k.r.Read()
	k.ok(err)
	f, root, used := whole(k.t, k.d.Image(), s)
	if !maps.Equal(f, k.was) {
		k.t.Fatalf("committed is %s; want %s", f.brief(), k.was.brief())
	}
	if len(used) != usedOf(k.was, root.Blocks) {
		k.t.Fatalf("%d blocks are used; want %d", len(used), usedOf(k.was, root.Blocks))
	}
	want := ahead
	want.slot, want.root, want.stamp = s, root, s.Counter+1
	want.used, want.free = slices.Sorted(maps.Keys(used)), root.Blocks-1-root.Used
	k.same("behind a commit", got, want)
	if s.Counter != ahead.slot.Counter+1 {
		k.t.Fatalf("the counter is %d; it was %d", s.Counter, ahead.slot.Counter)
	}
	k.holds("behind a commit")
	if n, err := k.s.New(); n != 0 || err != api.OK {
		k.t.Fatalf("behind a commit New = %d, %d", n, err)
	}
}

// holds asks that the working form is what it must be.
func (k *system) holds(what string) {
	k.t.Helper()
	f := form{}
	x := k.s.Inodes()
	l, err := x.All()
	k.ok(err)
	for _, n := range l {
		i, err := x.Get(n)
		k.ok(err)
		var text []byte
		for place := 0; 256*place < i.Size; place++ {
			b, err := x.Leaf(n, place)
			k.ok(err)
			text = append(text, b[:]...)
		}
		f[n] = thing{i.Kind, i.Links, i.Stamp, string(text[:i.Size])}
	}
	if !maps.Equal(f, k.now) {
		k.t.Fatalf("%s the working form is %s; want %s", what, f.brief(), k.now.brief())
	}
}

// told is all that a state tells without reading.
type told struct {
	slot             api.Slot
	root             api.Super
	stamp            uint64
	inodes           *inodes.Inodes
	cache            *cache.Cache
	dead             bool
	used             []uint32
	free, taken, let int
}

// tell is what a state tells.
func tell(s *commit.State) told {
	m := s.Room()
	return told{s.Slot(), s.Root(), s.Stamp(), s.Inodes(), s.Cache(), s.Dead(), m.List(api.RoomUsed), m.Count(api.RoomFree), m.Count(api.RoomTaken), m.Count(api.RoomLet)}
}

// same asks that a state tells this.
func (k *system) same(what string, got, want told) {
	k.t.Helper()
	if !slices.Equal(got.used, want.used) {
		k.t.Fatalf("%s the used blocks are %v; want %v", what, got.used, want.used)
	}
	a, b := got, want
	a.used, b.used = nil, nil
	if a.slot != b.slot || a.root != b.root || a.stamp != b.stamp {
		k.t.Fatalf("%s the state tells %v, %+v, %d; want %v, %+v, %d", what, a.slot, a.root, a.stamp, b.slot, b.root, b.stamp)
	}
	if a.inodes != b.inodes || a.cache != b.cache {
		k.t.Fatalf("%s the state has other inodes or another cache", what)
	}
	if a.dead != b.dead || a.free != b.free || a.taken != b.taken || a.let != b.let {
		k.t.Fatalf("%s: dead %v, %d blocks free, %d taken, %d let go; want %v, %d, %d, %d", what, a.dead, a.free, a.taken, a.let, b.dead, b.free, b.taken, b.let)
	}
}

// dies cuts the power.
func (k *system) dies() {
	k.d.Cut(api.Cut{Event: k.d.Events()})
	k.d.Event()
}

// untouched asks that nothing was written since the disk's log had so many entries.
func (k *system) untouched(what string, from int) {
	k.t.Helper()
	for _, raw := range k.d.Log()[from:] {
		if raw.Kind != api.RawRead {
			k.t.Fatalf("%s there was a raw %d of the block %d", what, raw.Kind, raw.At)
		}
	}
}

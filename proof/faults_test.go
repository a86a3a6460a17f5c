package proof_test

import (
	"slices"
	"testing"

	"signet/api"
	"signet/cache"
	"signet/digest"
	"signet/proof"
)

// asked is a path and a range that are asked for.
type asked struct {
	p      string
	off, n int
}

// some is paths and ranges of all kinds.
var some = []asked{
	{"/", 0, 0}, {"/d", 0, 0}, {"/d/f", 1, 3}, {"/d/f", 0, 0}, {"/d/f/x", 0, 0}, {"/d/f/", 0, 0}, {"/d/x", 0, 0}, {"/x", 0, 0}, {"/long", 250, 300}, {"/long", 0, 1300},
	{"/long", 0, 1301}, {"/holes", 0, 1000}, {"/holes", 4000, 1150}, {"/five" + numbered(1), 0, 5}, {"/five" + numbered(4), 0, 5}, {"/five", 0, 0}, {"/five/x", 0, 0}, {"/e", 0, 0},
}

// little is a system with some directories and files, committed, and its slot.
func little(t *testing.T) (build, api.Slot) {
	t.Helper()
	b := building(t, 100)
	b.dir("/d", "/five", "/e")
	b.file("/d/f", 5, map[int]string{0: "hello"})
	b.file("/long", 1300, map[int]string{0: full(1300)})
	b.file("/holes", 20*256+30, map[int]string{3*256 + 10: full(200), 17 * 256: full(300)})
	b.links("/d/f", "/five", 5)
	return b, b.commit()
}

// spoils is what may be written over a block: what nothing has, zeros, another block, the same with one bit turned.
func spoils(image []api.Block, at uint32) []api.Block {
	bit := image[at]
	bit[255] ^= 0x80
	return []api.Block{junk(at), {}, image[(at+1)%uint32(len(image))], bit}
}

// Each block written over: what is read for an answer is ErrTampered, and what is not read has no part in it (T3).
func TestEachBlockWrittenOver(t *testing.T) {
	t.Parallel()
	b, s := little(t)
	image := b.d.Image()
	for _, x := range some {
		want, read := b.formats(s, x.p, x.off, x.n)
		if len(read) < 2 {
			t.Fatalf("of %s %d blocks are read", x.p, len(read))
		}
		over := 0
		for at := range uint32(len(image)) {
			for _, spoilt := range spoils(image, at) {
				if spoilt == image[at] {
					continue
				}
				now := slices.Clone(image)
				now[at] = spoilt
				b.ok(b.d.Load(now))
				b.follows(s, x.p, x.off, x.n)
				bytes, text, err := proof.Make(b.cache(0), s, x.p, x.off, x.n)
				if slices.Contains(read, at) {
					over++
					if bytes != "" || text != "" || err != api.ErrTampered {
						t.Fatalf("with the block %d written over Make of %v = %q, a text of %d, %d", at, x, bytes, len(text), err)
					}
				} else if bytes != want.bytes || text != want.text || err != want.makeErr {
					t.Fatalf("with the block %d written over, which is not read, Make of %v = %q, a text of %d, %d", at, x, bytes, len(text), err)
				}
			}
		}
		if over < 6 {
			t.Errorf("for %v %d blocks were written over that are read", x, over)
		}
		b.ok(b.d.Load(image))
		b.same("laid back", b.follows(s, x.p, x.off, x.n), want)
	}
}

// Pairs of blocks written over: all is as the formats say.
func TestPairsOfBlocksWrittenOver(t *testing.T) {
	b, s := little(t)
	image := b.d.Image()
	for _, x := range some {
		_, read := b.formats(s, x.p, x.off, x.n)
		for i, at := range read {
			for _, other := range read[i:] {
				b.over(at, other)
				b.same("a pair", b.ask(b.cache(3), s, x.p, x.off, x.n), b.told(s, x))
				b.ok(b.d.Load(image))
			}
		}
	}
}

// tampered asks that each answer is the right one, or ErrTampered, and tells whether one was that.
func (b build) tampered(what string, got, right answers) bool {
	b.t.Helper()
	want, met := right, false
	if got.inodeErr == api.ErrTampered {
		want.number, want.inode, want.inodeErr, met = 0, api.Inode{}, api.ErrTampered, true
	}
	if got.sizeErr == api.ErrTampered {
		want.size, want.sizeErr, met = 0, api.ErrTampered, true
	}
	if got.makeErr == api.ErrTampered {
		want.bytes, want.text, want.makeErr, met = "", "", api.ErrTampered, true
	}
	if got.listErr == api.ErrTampered {
		want.links, want.list, want.listErr, met = nil, "", api.ErrTampered, true
	}
	b.same(what, got, want)
	return met
}

// An adversary ahead of each raw read of a call: the right answer, or ErrTampered; and nothing is kept of what was tampered.
func TestAnAdversaryAheadOfEachRead(t *testing.T) {
	t.Parallel()
	b, s := little(t)
	image := b.d.Image()
	var read []uint32
	for _, x := range some {
		_, more := b.formats(s, x.p, x.off, x.n)
		read = append(read, more...)
	}
	slices.Sort(read)
	read = slices.Compact(read)
	rights, refusals := 0, 0
	for _, room := range []int{0, 3, 100} {
		for _, x := range some {
			right, _ := b.formats(s, x.p, x.off, x.n)
			from := b.d.Ops()
			b.same("quiet", b.ask(b.cache(room), s, x.p, x.off, x.n), right)
			reads := b.d.Ops() - from
			for step := range reads {
				l := read
				if step%2 == 1 {
					l = read[step%len(read):][:1]
				}
				c := b.cache(room)
				b.d.Plan(over(b.d.Ops()+step, l))
				got := b.ask(c, s, x.p, x.off, x.n)
				b.d.Plan(nil)
				if b.tampered("with an adversary", got, right) {
					refusals++
				} else {
					rights++
				}
				b.ok(b.d.Load(image))
				b.same("laid back", b.ask(c, s, x.p, x.off, x.n), right)
			}
		}
	}
	if min(rights, refusals) < 100 {
		t.Errorf("%d answers are right, %d are refused", rights, refusals)
	}
}

// over is what writes blocks over ahead of a raw step.
func over(op int, l []uint32) (steps []api.Step) {
	for _, at := range l {
		steps = append(steps, api.Step{Op: op, Kind: api.StepBlock, At: int(at), Data: junk(at)})
	}
	return steps
}

// What a cache keeps is the right one, whatever is on the disk then, or whether it has power.
func TestWhatIsKept(t *testing.T) {
	b, s := little(t)
	c := b.cache(api.MaxCache)
	var want []answers
	for _, x := range some {
		want = append(want, b.ask(c, s, x.p, x.off, x.n))
	}
	for at := range uint32(100) {
		b.over(at)
	}
	for i, x := range some {
		b.same("kept", b.ask(c, s, x.p, x.off, x.n), want[i])
		b.same("not kept", b.ask(b.cache(9), s, x.p, x.off, x.n), fails(api.ErrTampered))
	}
	b.dies()
	for i, x := range some {
		b.same("kept, without power", b.ask(c, s, x.p, x.off, x.n), want[i])
		b.same("not kept, without power", b.ask(b.cache(9), s, x.p, x.off, x.n), fails(api.ErrCut))
	}
}

// An answer that is an error leaves all as it was, and none writes.
func TestNothingIsChanged(t *testing.T) {
	b, s := little(t)
	b.write("/d/f", map[int]string{0: "HELLO"})
	fresh, err := b.s.New()
	b.ok(err)
	then, root, stamp := b.stands(), b.s.Root(), b.s.Stamp()
	for _, c := range []*cache.Cache{b.s.Cache(), b.cache(0), nil} {
		for _, slot := range []api.Slot{s, {}, {Counter: 3}, {Counter: 9, Root: s.Root}, {Counter: s.Counter, Root: root.Map.Root}, {Counter: s.Counter, Root: api.Ref{At: 99, Sum: s.Root.Sum}}} {
			for _, x := range append(some, asked{"", 0, 0}, asked{"/d/f", -1, 0}, asked{depth(33), 0, 0}) {
				b.ask(c, slot, x.p, x.off, x.n)
			}
		}
	}
	b.unwritten("a call", then)
	if now, err := b.s.New(); now != fresh || err != api.OK || b.s.Root() != root || b.s.Stamp() != stamp || b.s.Slot() != s {
		t.Errorf("the state is another one: New = %d, %d", now, err)
	}
	if got := b.commit(); got.Counter != s.Counter+1 {
		t.Errorf("behind a commit the counter is %d", got.Counter)
	}
	if a := b.follows(b.s.Slot(), "/d/f", 0, 5); a.bytes != "HELLO" {
		t.Errorf("behind a commit Make = %q", a.bytes)
	}
}

// The log has all blocks of a proof: they were digested ahead of all use.
func TestProofsAreDigested(t *testing.T) {
	b, s := little(t)
	b.l = nil
	want, _ := b.formats(s, "/long", 0, 1300)
	b.same("without a log", b.ask(b.cache(0), s, "/long", 0, 1300), want)
	g := build{rig: rig{t, b.d, b.r, digest.NewLog()}}
	text := g.ask(g.cache(0), s, "/long", 0, 1300).text
	// Ahead of the place there are the root block and a table of two levels.
	for at := 0; at < len(text); at += 256 {
		if at == 3*256 {
			at += 4
		}
		if !g.l.Has(api.TagBlock, text[at:at+256]) {
			t.Errorf("the block at %d of the proof was not digested", at)
		}
	}
}

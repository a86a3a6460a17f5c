package verify_test

import (
	"math"
	"slices"
	"strings"
	"testing"

	"signet/api"
	"signet/digest"
	"signet/super"
	"signet/verify"
)

// 26.1: the root that a text begins with.

// rooted asks all calls of a slot and a text, and what Root is told.
func rooted(t *testing.T, what string, s api.Slot, text string, want api.Errno) {
	t.Helper()
	for _, p := range []string{"/", "/d/f", "/d/f/", "/x"} {
		question{s, p, 1, "ell", text}.asked(t)
	}
	root, err := verify.Root(nil, s, text)
	if err != want || err != api.OK && root != (api.Super{}) {
		t.Errorf("%s: Root = %+v, %d; want %d", what, root, err, want)
	}
}

// refused asks that all calls answer one error.
func refused(t *testing.T, what string, s api.Slot, text string, want api.Errno) {
	t.Helper()
	rooted(t, what, s, text, want)
	for _, p := range []string{"/", "/d/f", "/d/f/", "/x"} {
		for _, off := range []int{0, 1, math.MaxInt} {
			question{s, p, off, "ell", text}.is(t, what, want)
			question{s, p, off, "", text}.is(t, what, want)
		}
		if _, err := verify.List(nil, s, p, text); err != want {
			t.Errorf("%s: List of %s = %d; want %d", what, p, err, want)
		}
	}
}

func TestRoot(t *testing.T) {
	b, s := small(t)
	text := b.proof("/d/f", 1, 3)
	want := b.s.Root()
	for _, many := range []int{256, 257, 511, 512, 600, len(text)} {
		l := digest.NewLog()
		root, err := verify.Root(l, s, text[:many])
		if root != want || err != api.OK {
			t.Errorf("Root of %d bytes = %+v, %d; want %+v", many, root, err, want)
		}
		if x, _ := l.At(0); l.Len() != 1 || x != (api.Entry{Tag: api.TagBlock, Text: text[:256]}) {
			t.Errorf("Root of %d bytes digested %d texts", many, l.Len())
		}
	}
	// What is behind the root has no part.
	if root, err := verify.Root(nil, s, text[:256]+strings.Repeat("junk", 999)); root != want || err != api.OK {
		t.Errorf("Root with junk behind it = %+v, %d", root, err)
	}
}

func TestSlotsOfNone(t *testing.T) {
	b, s := small(t)
	for _, text := range []string{"", "x", b.proof("/d/f", 1, 3), strings.Repeat("\x00", 256), strings.Repeat("\x00", 5000)} {
		for _, counter := range []uint64{0, 1, s.Counter, math.MaxUint64} {
			refused(t, "none", api.Slot{Counter: counter}, text, api.ErrProof)
		}
	}
}

func TestTextsShorterThanTheRoot(t *testing.T) {
	b, s := small(t)
	text := b.proof("/d/f", 1, 3)
	for many := range 256 {
		l := digest.NewLog()
		if root, err := verify.Root(l, s, text[:many]); root != (api.Super{}) || err != api.ErrProof || l.Len() != 0 {
			t.Fatalf("Root of %d bytes = %+v, %d, and %d digested; want ErrProof", many, root, err, l.Len())
		}
	}
	for _, many := range []int{0, 1, 255} {
		refused(t, "short", s, text[:many], api.ErrProof)
		refused(t, "short and wrong", s, strings.Repeat("x", many), api.ErrProof)
	}
}

func TestTextsWithAnotherRoot(t *testing.T) {
	b, s := small(t)
	text := b.proof("/d/f", 1, 3)
	for bit := range 256 * 8 {
		if root, err := verify.Root(nil, s, turned(text, bit)); root != (api.Super{}) || err != api.ErrTampered {
			t.Fatalf("Root with the bit %d turned over = %+v, %d", bit, root, err)
		}
	}
	refused(t, "a bit turned over", s, turned(text, 70), api.ErrTampered)
	refused(t, "the last bit turned over", s, turned(text, 2047), api.ErrTampered)
	refused(t, "zeros", s, strings.Repeat("\x00", 256), api.ErrTampered)
	refused(t, "a byte ahead", s, "x"+text, api.ErrTampered)
	refused(t, "a byte too few", s, text[1:], api.ErrTampered)
	refused(t, "without the root", s, text[256:], api.ErrTampered)
}

func TestSlotsOfOtherDigests(t *testing.T) {
	b, right := small(t)
	text := b.proof("/d/f", 1, 3)
	for bit := range 256 {
		s := right
		s.Root.Sum[bit/8] ^= 1 << (bit % 8)
		if root, err := verify.Root(nil, s, text); root != (api.Super{}) || err != api.ErrTampered {
			t.Fatalf("Root with the digest's bit %d turned over = %+v, %d", bit, root, err)
		}
	}
	for what, x := range map[string]api.Ref{
		"no digest":             {At: right.Root.At},
		"the table's digest":    {At: right.Root.At, Sum: b.s.Root().Table.Root.Sum},
		"the table's reference": b.s.Root().Table.Root,
		"a digest of 1":         {Sum: api.Sum{31: 1}},
	} {
		refused(t, what, api.Slot{Counter: right.Counter, Root: x}, text, api.ErrTampered)
	}
}

// Where the root lies has no part: who knows the digest knows the block.
func TestTheNumberHasNoPart(t *testing.T) {
	b, right := small(t)
	text := b.proof("/d/f", 1, 3)
	links, list := b.list("/d")
	for _, at := range []uint32{0, 1, right.Root.At + 1, 63, 64, 8192, math.MaxUint32} {
		s := right
		s.Root.At = at
		rooted(t, "another number", s, text, api.OK)
		question{s, "/d/f", 1, "ell", text}.is(t, "another number", api.OK)
		if err := verify.CheckList(nil, s, "/d", links, list); err != api.OK {
			t.Errorf("CheckList with the number %d = %d", at, err)
		}
	}
}

func TestCounters(t *testing.T) {
	b, right := small(t)
	text := b.proof("/d/f", 1, 3)
	for _, counter := range []uint64{0, right.Counter - 1, right.Counter + 1, right.Counter + 1<<32, right.Counter + 1<<63, math.MaxUint64} {
		s := right
		s.Counter = counter
		refused(t, "another counter", s, text, api.ErrProof)
		// The digest comes first.
		refused(t, "another counter and a bit turned over", s, turned(text, 1), api.ErrTampered)
	}
	for _, counter := range []uint64{0, 1, math.MaxUint64} {
		m := making(t)
		root := api.Super{Blocks: 16, Counter: counter, Table: api.Tree{Root: api.Ref{At: 1}}, Inodes: 1, Map: api.Tree{Root: api.Ref{At: 2}}, Used: 3}
		x, err := super.Encode(root)
		m.ok(err)
		s := api.Slot{Counter: counter, Root: m.lay(x)}
		if got, err := verify.Root(nil, s, string(x[:])); got != root || err != api.OK {
			t.Errorf("Root of the counter %d = %+v, %d", counter, got, err)
		}
	}
}

// Blocks that are no root, with their right digests.
func TestNoRoots(t *testing.T) {
	b, right := small(t)
	image := b.d.Image()
	root := b.s.Root()
	m := making(t)
	wrong := map[string]api.Block{
		"the table's leaf": image[root.Table.Root.At],
		"the map's leaf":   image[root.Map.Root.At],
		"zeros":            {},
		"junk":             junk(1),
	}
	for what, at := range map[string]int{"another word": 0, "a disk of no blocks": 8, "a byte behind the blocks": 12, "a table of another height": 24, "no inodes": 28, "a table that is none": 32, "the last byte": 255} {
		x := image[right.Root.At]
		x[at] ^= byte(x[at])
		if at == 12 || at == 24 || at == 255 {
			x[at] = 1
		}
		if x == image[right.Root.At] {
			t.Fatalf("%s is nothing", what)
		}
		wrong[what] = x
	}
	for what, x := range wrong {
		s := api.Slot{Counter: right.Counter, Root: m.lay(x)}
		text := string(x[:])
		refused(t, what, s, text, api.ErrProof)
		refused(t, what+" with more behind", s, text+b.proof("/d/f", 0, 0)[256:], api.ErrProof)
		refused(t, what+", a bit turned over", s, turned(text, 9), api.ErrTampered)
	}
}

// A root that no register's disk could have, as its trees lie where it lies, is a root here: there is no disk.
func TestRootsThatFitNoDisk(t *testing.T) {
	b, s := small(t)
	root := b.s.Root()
	root.Map.Root.At, root.Used, root.Blocks = s.Root.At+1, 40, 1000
	x, err := super.Encode(root)
	b.ok(err)
	m := making(t)
	s.Root = m.lay(x)
	s.Root.At = root.Map.Root.At
	text := string(x[:]) + b.proof("/d/f", 1, 3)[256:]
	rooted(t, "another disk", s, text, api.OK)
	question{s, "/d/f", 1, "ell", text}.is(t, "another disk", api.OK)
}

// What stands beneath a slot is not changed by asking, and each answer is the same again.
func TestRootAgain(t *testing.T) {
	b, s := small(t)
	text := b.proof("/d/f", 1, 3)
	image, events := b.d.Image(), b.d.Events()
	l := digest.NewLog()
	for range 3 {
		if root, err := verify.Root(l, s, text); root != b.s.Root() || err != api.OK {
			t.Errorf("Root = %+v, %d", root, err)
		}
	}
	if l.Len() != 1 || !slices.Equal(b.d.Image(), image) || b.d.Events() != events {
		t.Error("asking again changed something")
	}
}

package super_test

import (
	"bytes"
	"math/rand/v2"
	"slices"
	"testing"

	"signet/api"
	"signet/super"
)

// 20.1

func TestEncode(t *testing.T) {
	for _, x := range rights() {
		if got, err := super.Encode(x); got != inBytes(x) || err != api.OK {
			t.Errorf("Encode(%+v) = %v, %d; want %v", x, got, err, inBytes(x))
		}
	}
}

// Each byte of the parts that may be any is another one, written out.
func TestEncodeByteByByte(t *testing.T) {
	x := api.Super{Blocks: 0x1234, Counter: 0x0807060504030201, Table: api.Tree{Height: 4, Root: api.Ref{At: 0x1110}}, Inodes: 0x0302, Map: api.Tree{Height: 2, Root: api.Ref{At: 0x1211}}, Used: 0x1020}
	want := []byte{'s', 'i', 'g', 'n', 'e', 't', '0', '1', 0x34, 0x12, 0, 0, 0, 0, 0, 0, 1, 2, 3, 4, 5, 6, 7, 8, 4, 0, 0, 0, 2, 3, 0, 0, 0x10, 0x11, 0, 0}
	for i := range 32 {
		x.Table.Root.Sum[i], x.Map.Root.Sum[i] = byte(100+i), byte(200+i)
		want = append(want, byte(100+i))
	}
	want = append(want, 2, 0, 0, 0, 0x11, 0x12, 0, 0)
	want = append(want, x.Map.Root.Sum[:]...)
	want = append(want, 0x20, 0x10, 0, 0)
	want = append(want, make([]byte, 144)...)
	got, err := super.Encode(x)
	if !bytes.Equal(got[:], want) || err != api.OK {
		t.Errorf("Encode(%+v) = %v, %d; want %v", x, got, err, want)
	}
	if back, err := super.Decode(api.Block(want)); back != x || err != api.OK {
		t.Errorf("Decode(%v) = %+v, %d; want %+v", want, back, err, x)
	}
}

func TestEncodeOfWhatMayNotBe(t *testing.T) {
	for _, x := range wrongs() {
		if b, err := super.Encode(x); b != (api.Block{}) || err != api.ErrSuper {
			t.Errorf("Encode(%+v) = %v, %d; want ErrSuper alone", x, b, err)
		}
	}
}

// wantNone asks that Decode answers ErrSuper, and the zero root beside it.
func wantNone(t *testing.T, b api.Block) {
	t.Helper()
	if x, err := super.Decode(b); x != (api.Super{}) || err != api.ErrSuper {
		t.Errorf("Decode(%v) = %+v, %d; want ErrSuper alone", b, x, err)
	}
}

// wantDecode asks of Decode what the model tells, and that a root that it tells has just this block.
func wantDecode(t *testing.T, b api.Block) {
	t.Helper()
	want, wantErr := ofBytes(b)
	got, err := super.Decode(b)
	if got != want || err != wantErr {
		t.Fatalf("Decode(%v) = %+v, %d; want %+v, %d", b, got, err, want, wantErr)
	}
	if err != api.OK {
		return
	}
	if again, err := super.Encode(got); again != b || err != api.OK {
		t.Fatalf("Encode of Decode(%v) = %v, %d", b, again, err)
	}
}

func TestDecode(t *testing.T) {
	for _, x := range rights() {
		wantDecode(t, inBytes(x))
		if got, err := super.Decode(inBytes(x)); got != x || err != api.OK {
			t.Errorf("Decode of the bytes of %+v = %+v, %d", x, got, err)
		}
	}
}

// The bytes of roots that may not be, but for those whose numbers don't fit into their bytes: of these the lowest bytes may be another root's.
func TestDecodeOfWhatMayNotBe(t *testing.T) {
	for _, x := range wrongs() {
		wantDecode(t, inBytes(x))
		if narrow(x) {
			wantNone(t, inBytes(x))
		}
	}
}

// narrow tells whether all numbers of a root fit into four bytes.
func narrow(x api.Super) bool {
	return !slices.ContainsFunc([]int{x.Blocks, x.Inodes, x.Used, x.Table.Height, x.Map.Height}, func(n int) bool {
		return n < 0 || uint64(n) >= 1<<32
	})
}

func TestDecodeOfNoRoot(t *testing.T) {
	wantNone(t, api.Block{})
	var ones, counted api.Block
	for i := range ones {
		ones[i], counted[i] = 255, byte(i)
	}
	wantNone(t, ones)
	wantNone(t, counted)
	var alone api.Block
	copy(alone[:], "signet01")
	wantNone(t, alone)
}

func TestDecodeOfOtherMarks(t *testing.T) {
	for _, mark := range []string{"signet00", "signet02", "Signet01", "signet10", "01signet", "ignet01s", "signet0\x00", "\x00\x00\x00\x00\x00\x00\x00\x00", "node\x01\x00\x00\x00", "bits\x00\x00\x00\x00"} {
		b := inBytes(plain())
		copy(b[:], mark)
		wantNone(t, b)
	}
}

// Each byte of some roots' blocks, turned to each other one, is held against what its parts say: an error, or another root, and then not the same one.
func TestDecodeOfSpoiltBytes(t *testing.T) {
	l := []api.Super{plain(), smallest(), greatest()}
	for _, at := range []int{1, 5, 40, 100} {
		l = append(l, rights()[at])
	}
	for _, x := range l {
		b := inBytes(x)
		for at, was := range b {
			for n := range 256 {
				if byte(n) == was {
					continue
				}
				b[at] = byte(n)
				wantDecode(t, b)
				if got, _ := super.Decode(b); got == x {
					t.Fatalf("with byte %d turned to %d Decode is still %+v", at, n, x)
				}
			}
			b[at] = was
		}
	}
}

// A byte that the document says is 0, and any of the first eight, may be nothing else.
func TestDecodeOfSpoiltZeros(t *testing.T) {
	for _, x := range rights()[:60] {
		b := inBytes(x)
		for at, was := range b {
			if at >= 16 && at < 112 || at >= 8 && at < 12 {
				continue
			}
			for _, n := range []byte{1, 2, 0x80, 0xff} {
				b[at] = was ^ n
				wantNone(t, b)
			}
			b[at] = was
		}
	}
}

// The parts that may not be, each by itself, in a block that is right but for it.
func TestDecodeOfWrongParts(t *testing.T) {
	right := inBytes(plain())
	for _, c := range []struct {
		at int
		b  []byte
	}{
		{8, []byte{15}}, {8, []byte{0}}, {9, []byte{32}}, {9, []byte{33}}, {10, []byte{1}}, {11, []byte{1}}, {11, []byte{0x80}}, {8, []byte{255, 255, 255, 255}},
		{12, []byte{1}}, {15, []byte{0x80}}, {12, []byte{255, 255, 255, 255}},
		{24, []byte{0}}, {24, []byte{2}}, {24, []byte{255}}, {25, []byte{1}}, {27, []byte{0x80}},
		{28, []byte{0}}, {28, []byte{4}}, {28, []byte{17}}, {29, []byte{1}}, {28, []byte{1, 16}}, {31, []byte{0x80}},
		{32, []byte{0}}, {32, []byte{6}}, {32, []byte{64}}, {33, []byte{1}}, {34, []byte{1}}, {35, []byte{1}}, {35, []byte{0x80}},
		{68, []byte{1}}, {69, []byte{1}}, {71, []byte{0x80}},
		{72, []byte{0}}, {72, []byte{5}}, {72, []byte{64}}, {73, []byte{1}}, {75, []byte{0x80}},
		{32, make([]byte, 36)}, {72, make([]byte, 36)},
		{108, []byte{2}}, {108, []byte{0}}, {108, []byte{64}}, {109, []byte{1}}, {111, []byte{0x80}}, {108, []byte{255, 255, 255, 255}},
		{112, []byte{1}}, {255, []byte{1}}, {112, bytes.Repeat([]byte{255}, 144)},
	} {
		b := right
		copy(b[c.at:], c.b)
		wantNone(t, b)
	}
	if x, err := super.Decode(right); x != plain() || err != api.OK {
		t.Errorf("Decode of what is right = %+v, %d", x, err)
	}
}

// 20.4

func TestDecodeOfEncode(t *testing.T) {
	r := rand.New(rand.NewPCG(20, 1))
	l := rights()
	for range 5000 {
		l = append(l, drawn(r))
	}
	for _, x := range l {
		b, err := super.Encode(x)
		if err != api.OK {
			t.Fatalf("Encode(%+v): error %d", x, err)
		}
		if got, err := super.Decode(b); got != x || err != api.OK {
			t.Fatalf("Decode of Encode(%+v) = %+v, %d", x, got, err)
		}
	}
}

func TestUnlikeRootsHaveUnlikeBlocks(t *testing.T) {
	r := rand.New(rand.NewPCG(20, 2))
	l := rights()
	for range 2000 {
		x := drawn(r)
		near := x
		near.Counter ^= 1 << r.IntN(64)
		far := x
		far.Map.Root.Sum[r.IntN(32)] ^= 1 << r.IntN(8)
		other := x
		other.Table.Root.Sum[r.IntN(32)] ^= 1 << r.IntN(8)
		turned := x
		turned.Table.Root, turned.Map.Root = x.Map.Root, x.Table.Root
		l = append(l, x, near, far, other, turned)
	}
	owner := map[api.Block]api.Super{}
	for _, x := range l {
		b, err := super.Encode(x)
		if err != api.OK {
			t.Fatalf("Encode(%+v): error %d", x, err)
		}
		if y, is := owner[b]; is && y != x {
			t.Fatalf("%+v and %+v have one block", x, y)
		}
		owner[b] = x
	}
}

func TestDecodeOfDrawnBytes(t *testing.T) {
	r := rand.New(rand.NewPCG(20, 4))
	many := 0
	for range 20000 {
		b := inBytes(drawn(r))
		for range r.IntN(4) {
			b[r.IntN(120)] ^= byte(r.Uint32()) >> r.IntN(9)
		}
		wantDecode(t, b)
		if _, err := super.Decode(b); err == api.OK {
			many++
		}
	}
	if many < 2000 || many > 18000 {
		t.Errorf("of 20000 blocks %d are roots: the draw is one-sided", many)
	}
}

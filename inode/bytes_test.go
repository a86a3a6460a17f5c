package inode_test

import (
	"bytes"
	"math/rand/v2"
	"slices"
	"testing"

	"signet/api"
	"signet/inode"
)

func TestEncode(t *testing.T) {
	for _, x := range rights() {
		got, err := inode.Encode(x)
		if want := inBytes(x); !bytes.Equal(got, want) || err != api.OK || len(got) != 64 {
			t.Errorf("Encode(%+v) = %v, %d; want %v", x, got, err, want)
		}
	}
}

// All parts are as great as they may be, so that each byte of them is told apart.
func TestEncodeOfTheGreatest(t *testing.T) {
	want := []byte{1, 0, 0xe8, 3, 6, 0, 0, 0, 0, 0, 16, 0, 0, 0, 0, 0}
	want = append(want, bytes.Repeat([]byte{0xff}, 8)...)
	want = append(want, 0xff, 0x1f, 0, 0)
	want = append(want, bytes.Repeat([]byte{0xff}, 32)...)
	want = append(want, 0, 0, 0, 0)
	got, err := inode.Encode(greatest())
	if !bytes.Equal(got, want) || err != api.OK {
		t.Errorf("Encode of the greatest = %v, %d; want %v", got, err, want)
	}
	if back, err := inode.Decode(want); back != greatest() || err != api.OK {
		t.Errorf("Decode of the greatest = %+v, %d", back, err)
	}
}

func TestEncodeOfWhatMayNotBe(t *testing.T) {
	for _, x := range wrongs() {
		got, err := inode.Encode(x)
		wantErr(t, "Encode of a wrong inode", err, api.ErrInode, len(got) == 0)
	}
}

func TestDecodeOfEncode(t *testing.T) {
	r := rand.New(rand.NewPCG(14, 2))
	l := rights()
	for range 5000 {
		l = append(l, drawn(r))
	}
	for _, x := range l {
		b, _ := inode.Encode(x)
		got, err := inode.Decode(b)
		if got != x || err != api.OK {
			t.Fatalf("Decode of Encode(%+v) = %+v, %d", x, got, err)
		}
		again, err := inode.Encode(got)
		if !bytes.Equal(again, b) || err != api.OK {
			t.Fatalf("Encode of Decode(%v) = %v, %d", b, again, err)
		}
	}
}

// wantNone asks that Decode answers ErrInode, and the zero inode beside it.
func wantNone(t *testing.T, b []byte) {
	t.Helper()
	if x, err := inode.Decode(b); x != (api.Inode{}) || err != api.ErrInode {
		t.Errorf("Decode(%v) = %+v, %d; want ErrInode alone", b, x, err)
	}
}

func TestDecodeOfOtherLengths(t *testing.T) {
	for _, x := range []api.Inode{{}, greatest(), {Kind: api.KindDir, Links: 1}} {
		b := append(inBytes(x), inBytes(x)...)
		b = append(b, make([]byte, 200)...)
		for many := range b {
			if many != 64 {
				wantNone(t, b[:many])
			}
		}
	}
	wantNone(t, nil)
	wantNone(t, []byte{})
	wantNone(t, make([]byte, 65))
	wantNone(t, make([]byte, 1<<20))
}

func TestDecodeOfZeros(t *testing.T) {
	if x, err := inode.Decode(make([]byte, 64)); x != (api.Inode{}) || err != api.OK {
		t.Errorf("Decode of zeros = %+v, %d; want the zero inode", x, err)
	}
}

// Each byte of some inodes, turned to each other one, is held against what its parts say.
func TestDecodeOfSpoiltBytes(t *testing.T) {
	l := []api.Inode{{}, greatest(), {Kind: api.KindFile, Links: 1}, {Kind: api.KindDir, Links: 1, Stamp: 7}}
	for _, size := range []int{1, 64, 256, 320, 1024, 1088, 65600, 1048512} {
		for _, root := range roots {
			l = append(l, api.Inode{Kind: api.KindFile, Links: 256, Size: size, Stamp: 1, Tree: with(heightOf(size), root)})
			if size%64 == 0 {
				l = append(l, api.Inode{Kind: api.KindDir, Links: 1, Size: size, Stamp: 2, Tree: with(heightOf(size), root)})
			}
		}
	}
	for _, x := range l {
		b := inBytes(x)
		for at, was := range b {
			for n := range 256 {
				b[at] = byte(n)
				want, wantErr := ofBytes(b)
				if got, err := inode.Decode(b); got != want || err != wantErr {
					t.Fatalf("Decode(%v) = %+v, %d; want %+v, %d", b, got, err, want, wantErr)
				}
			}
			b[at] = was
		}
	}
}

// The parts that may not be, each by itself, in bytes that are right but for it.
func TestDecodeOfWrongParts(t *testing.T) {
	right := inBytes(api.Inode{Kind: api.KindDir, Links: 1, Size: 320, Stamp: 3, Tree: with(1, api.Ref{At: 300, Sum: sum(1)})})
	for _, c := range []struct {
		at int
		b  []byte
	}{
		{0, []byte{0}}, {0, []byte{3}}, {1, []byte{1}}, {0, []byte{0xff, 0xff}},
		{2, []byte{0}}, {2, []byte{2}}, {3, []byte{1}}, {2, []byte{0xff, 0xff}},
		{4, []byte{0}}, {4, []byte{2}}, {4, []byte{7}}, {5, []byte{1}}, {4, []byte{0xff, 0xff}},
		{6, []byte{1}}, {7, []byte{1}}, {6, []byte{0xff, 0xff}}, {7, []byte{0x80}},
		{8, []byte{0}}, {8, []byte{65}}, {9, []byte{0}}, {9, []byte{4}}, {10, []byte{1}}, {11, []byte{1}}, {12, []byte{1}}, {13, []byte{1}}, {14, []byte{1}}, {15, []byte{1}}, {15, []byte{0x80}}, {8, bytes.Repeat([]byte{0xff}, 8)}, {8, make([]byte, 8)},
		{25, []byte{32}}, {26, []byte{1}}, {27, []byte{1}}, {27, []byte{0x80}}, {24, []byte{0xff, 0xff, 0xff, 0xff}}, {24, []byte{0, 0}}, {24, []byte{0, 32}},
		{60, []byte{1}}, {61, []byte{1}}, {62, []byte{1}}, {63, []byte{1}}, {63, []byte{0x80}}, {60, []byte{0xff, 0xff, 0xff, 0xff}},
	} {
		b := slices.Clone(right)
		copy(b[c.at:], c.b)
		if slices.Equal(b, right) {
			t.Errorf("nothing is spoilt at %d by %v", c.at, c.b)
		}
		wantNone(t, b)
	}
	if _, err := inode.Decode(right); err != api.OK {
		t.Errorf("Decode of what is right = %d", err)
	}
	for _, x := range wrongs() {
		b := inBytes(x)
		if y, _ := ofBytes(b); y == (api.Inode{}) && !slices.Equal(b, make([]byte, 64)) {
			wantNone(t, b)
		}
	}
}

func TestDecodeOfDrawnBytes(t *testing.T) {
	r := rand.New(rand.NewPCG(14, 3))
	for range 20000 {
		b := inBytes(drawn(r))
		for range r.IntN(4) {
			b[r.IntN(64)] = byte(r.Uint32()) >> r.IntN(9)
		}
		want, wantErr := ofBytes(b)
		if got, err := inode.Decode(b); got != want || err != wantErr {
			t.Fatalf("Decode(%v) = %+v, %d; want %+v, %d", b, got, err, want, wantErr)
		}
	}
}

// What is handed in stays, and so does what lies behind it; what is handed out is not shared.
func TestBytesAreNewMemory(t *testing.T) {
	for _, x := range []api.Inode{{}, greatest()} {
		one, _ := inode.Encode(x)
		two, _ := inode.Encode(x)
		one = one[:cap(one)]
		for i := range one {
			one[i] = 0xaa
		}
		if !bytes.Equal(two, inBytes(x)) || slices.Contains(two[len(two):cap(two)], 0xaa) {
			t.Error("two answers of Encode share memory")
		}
		room := append(inBytes(x), bytes.Repeat([]byte{0xbb}, 64)...)
		was := slices.Clone(room)
		got, _ := inode.Decode(room[:64])
		if !bytes.Equal(room, was) {
			t.Error("Decode changed what it was handed")
		}
		for i := range room {
			room[i] = 0xcc
		}
		if got != x {
			t.Error("what Decode answered hangs on what it was handed")
		}
	}
}

package bits_test

import (
	"slices"
	"testing"

	"signet/api"
	"signet/bits"
)

// 11.4

// wrong asks that leaves are no map of a size.
func wrong(t *testing.T, what string, size int, l []api.Block) {
	t.Helper()
	if m, err := bits.FromLeaves(size, l); m != nil || err != api.ErrLeaves {
		t.Errorf("%s: FromLeaves(%d, %d leaves) = %v, %d; want ErrLeaves", what, size, len(l), m, err)
	}
}

func TestLeavesByteByByte(t *testing.T) {
	l := made(t, 2049, 0, 9, 1023, 1024, 2047, 2048).Leaves()
	if len(l) != 3 {
		t.Fatal(len(l))
	}
	var want [3]api.Block
	for k := range want {
		copy(want[k][:], "bits")
		want[k][4] = byte(k)
	}
	want[0][128], want[0][129], want[0][255] = 1, 2, 128
	want[1][128], want[1][255] = 1, 128
	want[2][128] = 1
	for k := range want {
		if l[k] != want[k] {
			t.Errorf("leaf %d is %v; want %v", k, l[k], want[k])
		}
	}
}

func TestLeavesOfEachPlace(t *testing.T) {
	for _, size := range []int{9, 1025, api.MaxBlocks} {
		for place := range size {
			if size > 2000 && place%37 > 0 {
				continue
			}
			if got := made(t, size, place).Leaves(); !slices.Equal(got, of(size, place).leaves()) {
				t.Fatalf("Leaves of %d in %d = %v", place, size, got)
			}
		}
	}
}

func TestLeavesAreAsManyAsTheSizeNeeds(t *testing.T) {
	for size, want := range map[int]int{1: 1, 7: 1, 8: 1, 9: 1, 1023: 1, 1024: 1, 1025: 2, 2047: 2, 2048: 2, 2049: 3, 8191: 8, api.MaxBlocks: 8} {
		for _, p := range patterns(size) {
			l := made(t, size, p.ones()...).Leaves()
			if len(l) != want {
				t.Errorf("a map of %d has %d leaves; want %d", size, len(l), want)
			}
			if !slices.Equal(l, p.leaves()) {
				t.Errorf("Leaves of %v in %d = %v", p.ones(), size, l)
			}
		}
	}
}

func TestLeavesAreTheCallersOwn(t *testing.T) {
	for _, size := range []int{16, 2048, 2500} {
		m := made(t, size, 3, 15)
		first, second := m.Leaves(), m.Leaves()
		spoil := first[:cap(first)]
		for i := range spoil {
			for at := range spoil[i] {
				spoil[i][at] = 255
			}
		}
		if !slices.Equal(second, of(size, 3, 15).leaves()) {
			t.Error("two answers share memory")
		}
		holds(t, "behind a change of the leaves", m, of(size, 3, 15))
	}
}

func TestFromLeaves(t *testing.T) {
	for _, size := range sizes {
		for _, p := range patterns(size) {
			m, err := bits.FromLeaves(size, p.leaves())
			if m == nil || err != api.OK {
				t.Fatalf("FromLeaves of %v in %d = %v, %d", p.ones(), size, m, err)
			}
			holds(t, "FromLeaves", m, p)
		}
	}
}

func TestFromLeavesOfWrongSizes(t *testing.T) {
	for _, size := range wrongSizes {
		for _, l := range [][]api.Block{nil, {}, made(t, 1).Leaves(), made(t, api.MaxBlocks).Leaves(), make([]api.Block, 1)} { // New's error is named first
			if m, err := bits.FromLeaves(size, l); m != nil || err != api.ErrArg {
				t.Errorf("FromLeaves(%d, %d leaves) = %v, %d; want ErrArg", size, len(l), m, err)
			}
		}
	}
}

func TestFromLeavesTooFewAndTooMany(t *testing.T) {
	for _, size := range sizes {
		l := of(size, 0).leaves()
		wrong(t, "none", size, nil)
		wrong(t, "none", size, []api.Block{})
		wrong(t, "one too few", size, l[:len(l)-1])
		wrong(t, "the first missing", size, l[1:])
		more := make([]api.Block, 1)
		copy(more[0][:], "bits")
		more[0][4] = byte(len(l))
		wrong(t, "one too many", size, append(slices.Clone(l), more...))
		wrong(t, "one too many, of zeros", size, append(slices.Clone(l), api.Block{}))
		wrong(t, "the last twice", size, append(slices.Clone(l), l[len(l)-1]))
	}
}

func TestFromLeavesInAnotherOrder(t *testing.T) {
	for _, size := range []int{1025, 2048, 5000, api.MaxBlocks} {
		for _, p := range []plain{of(size), of(size, 0, size-1)} {
			l := p.leaves()
			for a := range l {
				for b := range a {
					turned := slices.Clone(l)
					turned[a], turned[b] = l[b], l[a]
					wrong(t, "two leaves turned about", size, turned)
					twice := slices.Clone(l)
					twice[a] = l[b]
					wrong(t, "a leaf twice", size, twice)
				}
			}
		}
	}
}

// Whatever is done to one byte ahead of the bits, no map is read.
func TestFromLeavesWithAByteOfTheHeadSpoilt(t *testing.T) {
	for _, size := range []int{1, 9, 1023, 1024, 1025, 2048, api.MaxBlocks} {
		for k := range of(size).leaves() {
			for at := range 128 {
				for _, by := range []byte{1, 2, 128, 255, 'B' ^ 'b'} {
					l := of(size, 0, size/2, size-1).leaves()
					l[k][at] ^= by
					wrong(t, "a byte of the head spoilt", size, l)
				}
			}
		}
	}
}

func TestFromLeavesOfTheBytesOfOthers(t *testing.T) {
	l := of(2048, 5).leaves()
	for _, head := range []string{"node", "Bits", "bit\x00", "\x00bits", "\x00\x00\x00\x00"} {
		other := slices.Clone(l)
		copy(other[1][:], head)
		wrong(t, head, 2048, other)
	}
	wrong(t, "zeros", 16, make([]api.Block, 1))
	wrong(t, "zeros", api.MaxBlocks, make([]api.Block, 8))
	var ones api.Block
	for at := range ones {
		ones[at] = 255
	}
	wrong(t, "ones", 1024, []api.Block{ones})
}

func TestFromLeavesWithABitBehindTheEnd(t *testing.T) {
	for _, size := range []int{1, 2, 7, 8, 9, 63, 64, 65, 1000, 1023, 1025, 1088, 2047, 2049, 8191} {
		for place := size; place < (size+1023)/1024*1024; place++ {
			l := of(size, 0, size-1).leaves()
			l[place>>10][128+((place&1023)>>3)] |= 1 << (place & 7)
			wrong(t, "a bit behind the end", size, l)
		}
	}
}

// Of a size that fills its last leaf no bit is behind the end.
func TestFromLeavesWithEachBitWithin(t *testing.T) {
	for _, size := range []int{1, 8, 9, 1023, 1024, 1025, 2048} {
		for place := range size {
			m, err := bits.FromLeaves(size, of(size, place).leaves())
			if err != api.OK || m.Count() != 1 || m.Next(0) != place {
				t.Fatalf("FromLeaves of %d in %d = %v, %d", place, size, m, err)
			}
		}
	}
}

func TestFromLeavesOfAnotherSize(t *testing.T) {
	for _, size := range sizes {
		for _, other := range sizes {
			// As many leaves, and no bit behind the end: it is a map of that size, too.
			p := of(size, 0)
			m, err := bits.FromLeaves(other, p.leaves())
			if (size+1023)/1024 != (other+1023)/1024 {
				if m != nil || err != api.ErrLeaves {
					t.Errorf("leaves of %d read as %d: %v, %d; want ErrLeaves", size, other, m, err)
				}
				continue
			}
			if err != api.OK {
				t.Fatalf("leaves of %d read as %d: %d", size, other, err)
			}
			holds(t, "leaves read as those of another size", m, of(other, 0))
		}
	}
}

func TestFromLeavesKeepsNothingThatWasHandedIn(t *testing.T) {
	l := of(2048, 5, 1024).leaves()
	room := append(slices.Clone(l), api.Block{9}, api.Block{8})
	m, err := bits.FromLeaves(2048, room[:2])
	if err != api.OK {
		t.Fatal(err)
	}
	if !slices.Equal(room[:2], l) || room[2] != (api.Block{9}) || room[3] != (api.Block{8}) {
		t.Error("what was handed in is changed")
	}
	for k := range room {
		room[k] = api.Block{}
	}
	holds(t, "behind a change of what was handed in", m, of(2048, 5, 1024))
	m.Set(0)
	if !slices.Equal(room, make([]api.Block, 4)) {
		t.Error("Set changes what was handed in")
	}
}

package name_test

import (
	"math"
	"math/rand/v2"
	"slices"
	"strings"
	"testing"

	"signet/api"
	"signet/name"
)

// four is entries that fill a leaf.
var four = []api.Link{link(1, "a"), link(api.MaxInodes, strings.Repeat("z", 56)), link(1, "a"), link(300, "...")}

// leafOf is the leaf of entries, by their bytes one behind the other.
func leafOf(l []api.Link) api.Block {
	var s string
	for _, x := range l {
		s += inBytes(x.Inode, x.Name)
	}
	return filled(s)
}

func TestLeaf(t *testing.T) {
	for many := range 5 {
		got, err := name.Leaf(four[:many]...)
		if want := leafOf(four[:many]); got != want || err != api.OK {
			t.Errorf("Leaf of %d entries = %q, %d; want %q", many, got, err, want)
		}
	}
	if b, err := name.Leaf([]api.Link{}...); b != (api.Block{}) || err != api.OK {
		t.Errorf("Leaf of an empty list = %q, %d", b, err)
	}
}

func TestLeafOfTooMany(t *testing.T) {
	for _, many := range []int{5, 6, 8, 100} {
		l := slices.Repeat([]api.Link{link(1, "a")}, many)
		b, err := name.Leaf(l...)
		wantErr(t, "Leaf of too many", err, api.ErrArg, b == api.Block{})
		for place := range l {
			wrong := slices.Clone(l)
			wrong[place].Name = "/"
			b, err := name.Leaf(wrong...)
			wantErr(t, "Leaf of too many with a wrong name", err, api.ErrArg, b == api.Block{})
		}
	}
	b, err := name.Leaf(make([]api.Link, 5)...)
	wantErr(t, "Leaf of five zero entries", err, api.ErrArg, b == api.Block{})
}

// The error of the first faulty one is told, whatever comes behind it.
func TestLeafOfFaultyEntries(t *testing.T) {
	faults := []struct {
		x   api.Link
		err api.Errno
	}{
		{link(0, "a"), api.ErrArg}, {link(-1, "a"), api.ErrArg}, {link(4097, "a"), api.ErrArg}, {link(1, ""), api.ErrName}, {link(1, "a/b"), api.ErrName}, {link(1, strings.Repeat("a", 57)), api.ErrName}, {link(0, ""), api.ErrArg}, {link(4097, ".."), api.ErrArg},
	}
	for many := 1; many <= 4; many++ {
		for place := range many {
			for _, fault := range faults {
				l := slices.Clone(four[:many])
				l[place] = fault.x
				b, err := name.Leaf(l...)
				wantErr(t, "Leaf with a faulty entry", err, fault.err, b == api.Block{})
				for behind := place + 1; behind < many; behind++ {
					for _, other := range faults {
						l := slices.Clone(l)
						l[behind] = other.x
						b, err := name.Leaf(l...)
						wantErr(t, "Leaf with two faulty entries", err, fault.err, b == api.Block{})
					}
				}
			}
		}
	}
}

func TestFromLeafOfLeaf(t *testing.T) {
	for many := range 5 {
		for n := -1; n <= 5; n++ {
			b, _ := name.Leaf(four[:many]...)
			l, err := name.FromLeaf(b, n)
			switch {
			case n < 0 || n > 4:
				wantErr(t, "FromLeaf with a wrong number", err, api.ErrArg, len(l) == 0)
			case n != many:
				wantErr(t, "FromLeaf with another number", err, api.ErrEntry, len(l) == 0)
			case !slices.Equal(l, four[:many]) || err != api.OK:
				t.Errorf("FromLeaf of Leaf of %d entries = %v, %d", many, l, err)
			}
		}
	}
}

func TestFromLeafWithWrongNumbers(t *testing.T) {
	var bad api.Block
	bad[0] = 1
	for _, b := range []api.Block{{}, leafOf(four), bad} {
		for _, n := range []int{-1, 5, -2, 6, -4, 64, 256, 1 << 32, 1<<32 + 1, math.MinInt, math.MinInt + 1, math.MaxInt} {
			l, err := name.FromLeaf(b, n)
			wantErr(t, "FromLeaf with a wrong number", err, api.ErrArg, len(l) == 0)
		}
	}
}

// What stands at each of the four places is an entry, zeros, or no entry: the first n must be entries, the others zeros.
func TestFromLeafOfAllMixtures(t *testing.T) {
	kinds := []string{inBytes(3, "abc"), zeros, inBytes(3, "a/c"), inBytes(0, "abc"), zeros[1:] + "\x01"}
	for mixture := range 5 * 5 * 5 * 5 {
		var s string
		is := [4]int{mixture % 5, mixture / 5 % 5, mixture / 25 % 5, mixture / 125}
		for _, kind := range is {
			s += kinds[kind]
		}
		for n := range 5 {
			right := true
			for place, kind := range is {
				right = right && (place < n && kind == 0 || place >= n && kind == 1)
			}
			l, err := name.FromLeaf(filled(s), n)
			if !right {
				wantErr(t, "FromLeaf of a mixture", err, api.ErrEntry, len(l) == 0)
				continue
			}
			want := slices.Repeat([]api.Link{link(3, "abc")}, n)
			if !slices.Equal(l, want) || err != api.OK {
				t.Errorf("FromLeaf(%v, %d) = %v, %d; want %v", is, n, l, err, want)
			}
		}
	}
}

// Each byte behind the first n entries must be zero.
func TestFromLeafWithBytesBehind(t *testing.T) {
	for n := range 5 {
		for at := n * 64; at < 256; at++ {
			b := leafOf(four[:n])
			b[at] = 1
			l, err := name.FromLeaf(b, n)
			wantErr(t, "FromLeaf with a byte behind", err, api.ErrEntry, len(l) == 0)
		}
	}
}

func TestFromLeafIsNewMemory(t *testing.T) {
	for n := range 5 {
		b := leafOf(four[:n])
		first, _ := name.FromLeaf(b, n)
		second, _ := name.FromLeaf(b, n)
		first = append(first, link(1, "x"))
		first = first[:cap(first)]
		for i := range first {
			first[i] = link(99, "other")
		}
		if !slices.Equal(second, four[:n]) {
			t.Errorf("two answers of FromLeaf share memory: %v", second)
		}
	}
}

func TestLeafLeavesTheListHandedIn(t *testing.T) {
	for n := range 5 {
		given := roomy(four[:n])
		first, _ := name.Leaf(given...)
		if !slices.Equal(given, four[:n]) || !spare(given) {
			t.Errorf("Leaf changed the list that was handed in: %v", given)
		}
		for i := range given {
			given[i] = link(99, "other")
		}
		if first != leafOf(four[:n]) {
			t.Error("Leaf's answer changed with the list that was handed in")
		}
	}
}

func TestLeaves(t *testing.T) {
	for n, leaves := 0, 0; n <= 16384; n++ {
		if n > leaves*4 {
			leaves++
		}
		if got, err := name.Leaves(n); got != leaves || err != api.OK {
			t.Fatalf("Leaves(%d) = %d, %d; want %d", n, got, err, leaves)
		}
	}
	for n, want := range map[int]int{0: 0, 1: 1, 4: 1, 5: 2, 8: 2, 9: 3, 16383: 4096, 16384: 4096} {
		if got, err := name.Leaves(n); got != want || err != api.OK {
			t.Errorf("Leaves(%d) = %d, %d; want %d", n, got, err, want)
		}
	}
}

func TestLeavesOfWrongNumbers(t *testing.T) {
	for _, n := range []int{-1, -2, -3, -4, -5, -16384, 16385, 16386, 16388, 1 << 20, 1 << 32, 1<<32 + 4, math.MinInt, math.MinInt + 1, math.MaxInt, math.MaxInt - 3} {
		got, err := name.Leaves(n)
		wantErr(t, "Leaves of a wrong number", err, api.ErrArg, got == 0)
	}
}

// anyName is a name of any bytes and any length.
func anyName(r *rand.Rand) string {
	for {
		b := make([]byte, 1+r.IntN(56))
		for i := range b {
			b[i] = byte(r.Uint32())
			if r.IntN(2) == 0 {
				b[i] = '.'
			}
		}
		if mayBe(string(b)) {
			return string(b)
		}
	}
}

func TestLeafAndBackOfAnyEntries(t *testing.T) {
	r := rand.New(rand.NewPCG(13, 4))
	for range 3000 {
		l := make([]api.Link, r.IntN(5))
		for i := range l {
			l[i] = link(1+r.IntN(4096), anyName(r))
		}
		b, err := name.Leaf(l...)
		if b != leafOf(l) || err != api.OK {
			t.Fatalf("Leaf(%v) = %q, %d", l, b, err)
		}
		if back, err := name.FromLeaf(b, len(l)); !slices.Equal(back, l) || err != api.OK {
			t.Fatalf("FromLeaf of Leaf(%v) = %v, %d", l, back, err)
		}
	}
}

// Blocks with some bytes spoilt are held against what the bytes of each entry say.
func TestFromLeafOfSpoiltLeaves(t *testing.T) {
	r := rand.New(rand.NewPCG(13, 5))
	for range 20000 {
		n := r.IntN(5)
		b := leafOf(four[:n])
		for range r.IntN(3) {
			b[r.IntN(256)] = byte(r.Uint32() >> r.IntN(9))
		}
		var want []api.Link
		wantErr := api.OK
		for place := range 4 {
			x, there, err := entry(string(b[place*64 : place*64+64]))
			if err != api.OK || there != (place < n) {
				wantErr = api.ErrEntry
			}
			if there {
				want = append(want, x)
			}
		}
		if wantErr != api.OK {
			want = nil
		}
		if got, err := name.FromLeaf(b, n); !slices.Equal(got, want) || err != wantErr {
			t.Fatalf("FromLeaf(%q, %d) = %v, %d; want %v, %d", b, n, got, err, want, wantErr)
		}
	}
}

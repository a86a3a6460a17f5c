package super_test

import (
	"math"
	"math/rand/v2"
	"testing"

	"signet/api"
	"signet/super"
)

// 20.3

// fits is whether a root fits, condition by condition.
func fits(x api.Super, s api.Slot, blocks int) bool {
	at := int64(s.Root.At)
	if !mayBe(x) || x.Blocks != blocks || x.Counter != s.Counter {
		return false
	}
	return at >= 1 && at <= int64(blocks)-1 && at != int64(x.Table.Root.At) && at != int64(x.Map.Root.At)
}

// wantFits asks whether a root fits, by what the test says and by the model.
func wantFits(t *testing.T, x api.Super, s api.Slot, blocks int, want bool) {
	t.Helper()
	if fits(x, s, blocks) != want {
		t.Errorf("the model of Fits(%+v, %+v, %d) is not %v", x, s, blocks, want)
	}
	if got := super.Fits(x, s, blocks); got != want {
		t.Errorf("Fits(%+v, %+v, %d) = %v; want %v", x, s, blocks, got, want)
	}
}

// slotOf is a slot that names a root in a block.
func slotOf(x api.Super, at uint32) api.Slot {
	return api.Slot{Counter: x.Counter, Root: api.Ref{At: at, Sum: sum(7)}}
}

// free is a block of a root's disk in which none of its trees lies.
func free(x api.Super) uint32 {
	at := uint32(1)
	for at == x.Table.Root.At || at == x.Map.Root.At {
		at++
	}
	return at
}

func TestFits(t *testing.T) {
	for _, x := range rights() {
		wantFits(t, x, slotOf(x, free(x)), x.Blocks, true)
	}
}

// Of no root that may not be: all else is as it must be, as far as that may be said.
func TestFitsOfWhatMayNotBe(t *testing.T) {
	for _, x := range wrongs() {
		wantFits(t, x, slotOf(x, free(x)), x.Blocks, false)
	}
}

func TestFitsOfOtherBlocks(t *testing.T) {
	for _, x := range []api.Super{plain(), smallest(), greatest()} {
		s := slotOf(x, free(x))
		for _, blocks := range append([]int{0, 1, 15, x.Blocks - 1, x.Blocks + 1, 2 * x.Blocks, 8193, 1<<32 + x.Blocks}, wrongInts...) {
			if blocks != x.Blocks {
				wantFits(t, x, s, blocks, false)
			}
		}
		wantFits(t, x, s, x.Blocks, true)
	}
}

func TestFitsOfOtherCounters(t *testing.T) {
	for _, x := range []api.Super{plain(), smallest(), greatest()} {
		for _, counter := range counters {
			x.Counter = counter
			for _, other := range counters {
				s := slotOf(x, free(x))
				s.Counter = other
				wantFits(t, x, s, x.Blocks, counter == other)
			}
			s := slotOf(x, free(x))
			s.Counter ^= 1 << 32
			wantFits(t, x, s, x.Blocks, false)
		}
	}
}

// Each block of the disk but 0, and the two in which the trees lie; and some past its end.
func TestFitsOfAllPlaces(t *testing.T) {
	for _, x := range []api.Super{plain(), smallest(), greatest()} {
		for at := range uint32(x.Blocks + 3) {
			free := at != 0 && at < uint32(x.Blocks) && at != x.Table.Root.At && at != x.Map.Root.At
			wantFits(t, x, slotOf(x, at), x.Blocks, free)
		}
		for _, at := range []uint32{1 << 16, 1<<16 + 3, 1 << 31, 1<<31 + 3, math.MaxUint32 - 1, math.MaxUint32} {
			wantFits(t, x, slotOf(x, at), x.Blocks, false)
		}
	}
}

// What the digest of the slot is has no part in it, not even that of zeros or one of a tree's.
func TestFitsOfAnyDigest(t *testing.T) {
	x := plain()
	for _, s := range []api.Sum{{}, {1}, full(), x.Table.Root.Sum, x.Map.Root.Sum} {
		wantFits(t, x, api.Slot{Counter: x.Counter, Root: api.Ref{At: 7, Sum: s}}, x.Blocks, true)
	}
}

func TestFitsOfNothing(t *testing.T) {
	wantFits(t, api.Super{}, api.Slot{}, 0, false)
	wantFits(t, api.Super{}, api.Slot{}, 64, false)
	wantFits(t, plain(), api.Slot{}, 64, false)
	wantFits(t, api.Super{}, slotOf(plain(), 7), 64, false)
}

func TestFitsOfDrawnRoots(t *testing.T) {
	r := rand.New(rand.NewPCG(20, 3))
	many := 0
	for range 20000 {
		x := drawn(r)
		s, blocks := slotOf(x, uint32(r.IntN(x.Blocks+1))), x.Blocks
		switch r.IntN(8) {
		case 0:
			s.Counter += uint64(r.IntN(3))
		case 1:
			blocks += r.IntN(3) - 1
		case 2:
			s.Root.At = [...]uint32{0, x.Table.Root.At, x.Map.Root.At, uint32(x.Blocks)}[r.IntN(4)]
		case 3:
			x.Used += r.IntN(3) - 1
		}
		want := fits(x, s, blocks)
		wantFits(t, x, s, blocks, want)
		if want {
			many++
		}
	}
	if many < 5000 || many > 19000 {
		t.Errorf("of 20000 roots %d fit: the draw is one-sided", many)
	}
}

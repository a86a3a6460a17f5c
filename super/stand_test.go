package super_test

import (
	"math"
	"math/rand/v2"
	"slices"
	"testing"

	"signet/api"
)

// wrongInts is numbers that no part of a root may be, those among them whose lowest bytes are of numbers that may be.
var wrongInts = []int{
	-1, -2, -3, -16, -64, -1024, -8192, -1 << 31, -1 << 32, math.MinInt, math.MinInt + 1, math.MinInt + 64,
	math.MaxInt, math.MaxInt - 1, math.MaxInt - 1023, 1 << 31, 1 << 32, 1<<32 + 1, 1<<32 + 5, 1<<32 + 64, 1 << 62,
}

// disks is numbers of blocks with the least heights of their maps and how many leaves these have, written out: both edges of all, and of each stretch with one height and one number of leaves.
var disks = []struct{ blocks, height, leaves int }{
	{16, 0, 1}, {17, 0, 1}, {64, 0, 1}, {1023, 0, 1}, {1024, 0, 1},
	{1025, 1, 2}, {2047, 1, 2}, {2048, 1, 2}, {2049, 1, 3}, {3072, 1, 3}, {3073, 1, 4}, {4095, 1, 4}, {4096, 1, 4},
	{4097, 2, 5}, {5120, 2, 5}, {5121, 2, 6}, {6144, 2, 6}, {6145, 2, 7}, {7168, 2, 7}, {7169, 2, 8}, {8191, 2, 8}, {8192, 2, 8},
}

// tables is numbers of inodes with the least heights of their tables, written out: both edges of all, and of each stretch with one height.
var tables = []struct{ inodes, height int }{
	{1, 0}, {2, 0}, {3, 0}, {4, 0},
	{5, 1}, {6, 1}, {15, 1}, {16, 1},
	{17, 2}, {63, 2}, {64, 2},
	{65, 3}, {255, 3}, {256, 3},
	{257, 4}, {1023, 4}, {1024, 4},
	{1025, 5}, {2048, 5}, {4095, 5}, {4096, 5},
}

var counters = []uint64{0, 1, 255, 256, 1 << 32, math.MaxInt64, 1 << 63, math.MaxUint64 - 1, math.MaxUint64}

// sum is a digest of unlike bytes, none of which is zero.
func sum(first byte) api.Sum {
	var s api.Sum
	for i := range s {
		s[i] = first ^ byte(i*8) | 1
	}
	return s
}

// full is the digest whose bytes are all 255.
func full() api.Sum {
	var s api.Sum
	for i := range s {
		s[i] = 255
	}
	return s
}

// with is a tree.
func with(height int, at uint32, s api.Sum) api.Tree {
	return api.Tree{Height: height, Root: api.Ref{At: at, Sum: s}}
}

// plain is a root that may be, all of whose parts are unlike.
func plain() api.Super {
	return api.Super{Blocks: 64, Counter: 9, Table: with(1, 5, sum(1)), Inodes: 7, Map: with(0, 6, sum(2)), Used: 11}
}

// smallest is the root all of whose parts are as small as they may be.
func smallest() api.Super {
	return api.Super{Blocks: 16, Table: with(0, 1, api.Sum{}), Inodes: 1, Map: with(0, 2, api.Sum{}), Used: 3}
}

// greatest is the root all of whose parts are as great as they may be.
func greatest() api.Super {
	return api.Super{Blocks: 8192, Counter: math.MaxUint64, Table: with(5, 8190, full()), Inodes: 4096, Map: with(2, 8191, full()), Used: 8191}
}

// rights is roots that may be: each number of blocks with each of inodes, and each other part at its edges.
func rights() []api.Super {
	l := []api.Super{plain(), smallest(), greatest()}
	for _, d := range disks {
		last := uint32(d.blocks - 1)
		for i, y := range tables {
			counter := counters[i%len(counters)]
			l = append(l,
				api.Super{Blocks: d.blocks, Counter: counter, Table: with(y.height, 1, sum(byte(i))), Inodes: y.inodes, Map: with(d.height, last, api.Sum{}), Used: 3},
				api.Super{Blocks: d.blocks, Counter: counter, Table: with(y.height, last, api.Sum{31: 1}), Inodes: y.inodes, Map: with(d.height, 1, sum(byte(i))), Used: d.blocks - 1},
				api.Super{Blocks: d.blocks, Counter: counter, Table: with(y.height, last-1, api.Sum{1}), Inodes: y.inodes, Map: with(d.height, last, api.Sum{1}), Used: d.blocks - 2},
			)
		}
	}
	for _, counter := range counters {
		x := plain()
		x.Counter = counter
		l = append(l, x)
	}
	return l
}

// wrongs is roots that may not be, each by one of its parts.
func wrongs() []api.Super {
	l := []api.Super{{}, {Counter: 1}}
	for _, x := range []api.Super{plain(), smallest(), greatest()} {
		l = append(l, wrongNumbers(x)...)
		l = append(l, wrongHeights(x)...)
		l = append(l, wrongPlaces(x)...)
	}
	for _, d := range disks {
		x := greatest()
		x.Blocks, x.Map.Height, x.Used = d.blocks, d.height, d.blocks-1
		x.Table.Root.At, x.Map.Root.At = 1, uint32(d.blocks-1)
		l = append(l, wrongHeights(x)...)
		l = append(l, wrongPlaces(x)...)
	}
	for _, y := range tables {
		x := plain()
		x.Inodes, x.Table.Height = y.inodes, y.height
		l = append(l, wrongHeights(x)...)
	}
	return l
}

// wrongNumbers is a root with its blocks, its inodes and its used blocks put to what they may not be, one after the other.
func wrongNumbers(x api.Super) []api.Super {
	var l []api.Super
	for _, n := range append([]int{0, 1, 2, 3, 15, 8193, 8194, 16384}, wrongInts...) {
		y := x
		y.Blocks = n
		l = append(l, y)
	}
	for _, n := range append([]int{0, 4097, 4098, 16384}, wrongInts...) {
		y := x
		y.Inodes = n
		l = append(l, y)
	}
	for _, n := range append([]int{0, 1, 2, x.Blocks, x.Blocks + 1, 8192, 8193}, wrongInts...) {
		y := x
		y.Used = n
		l = append(l, y)
	}
	return l
}

// wrongHeights is a root with the heights of its trees put to what they may not be, one after the other.
func wrongHeights(x api.Super) []api.Super {
	var l []api.Super
	of := func(right int) []int {
		return append([]int{right - 1, right + 1, right + 2, 6, 7, 256 + right, 1<<16 + right, 1<<24 + right, 1<<32 + right}, wrongInts...)
	}
	for _, height := range of(x.Table.Height) {
		y := x
		y.Table.Height = height
		l = append(l, y)
	}
	for _, height := range of(x.Map.Height) {
		y := x
		y.Map.Height = height
		l = append(l, y)
	}
	return l
}

// wrongPlaces is a root with its trees where they may not lie, one after the other, and both in one block.
func wrongPlaces(x api.Super) []api.Super {
	var l []api.Super
	blocks := uint32(x.Blocks)
	for _, at := range []uint32{0, blocks, blocks + 1, 8192, 1 << 16, 1<<16 + 1, 1 << 24, 1 << 31, 1<<31 + 1, math.MaxUint32} {
		y := x
		y.Table.Root.At = at
		z := x
		z.Map.Root.At = at
		l = append(l, y, z)
	}
	for _, at := range []uint32{1, 2, blocks - 1} {
		y := x
		y.Table.Root.At, y.Map.Root.At = at, at
		l = append(l, y)
	}
	none, without := x, x
	none.Table.Root, without.Map.Root = api.Ref{}, api.Ref{}
	return append(l, none, without)
}

// leastFor is the least height whose leaves are so many, looked for among all.
func leastFor(leaves int) int {
	return slices.IndexFunc([]int{1, 4, 16, 64, 256, 1024, 4096}, func(most int) bool { return leaves <= most })
}

// mayBe tells whether a root may be, condition by condition.
func mayBe(x api.Super) bool {
	if x.Blocks < 16 || x.Blocks > 8192 || x.Inodes < 1 || x.Inodes > 4096 || x.Used < 3 || x.Used > x.Blocks-1 {
		return false
	}
	if x.Table.Height != leastFor((x.Inodes+3)/4) || x.Map.Height != leastFor((x.Blocks+1023)/1024) {
		return false
	}
	table, bits := int64(x.Table.Root.At), int64(x.Map.Root.At)
	last := int64(x.Blocks - 1)
	return table >= 1 && table <= last && bits >= 1 && bits <= last && table != bits
}

// inBytes is a root's block, laid byte by byte as the document says, whether it may be or not.
func inBytes(x api.Super) api.Block {
	l := []byte("signet01")
	lay := func(n uint64, bytes int) {
		for range bytes {
			l = append(l, byte(n))
			n >>= 8
		}
	}
	lay(uint64(x.Blocks), 4)
	lay(0, 4)
	lay(x.Counter, 8)
	lay(uint64(x.Table.Height), 4)
	lay(uint64(x.Inodes), 4)
	lay(uint64(x.Table.Root.At), 4)
	l = append(l, x.Table.Root.Sum[:]...)
	lay(uint64(x.Map.Height), 4)
	lay(uint64(x.Map.Root.At), 4)
	l = append(l, x.Map.Root.Sum[:]...)
	lay(uint64(x.Used), 4)
	lay(0, 256-len(l))
	return api.Block(l)
}

// ofBytes is what a block says, asked byte by byte.
func ofBytes(b api.Block) (api.Super, api.Errno) {
	number := func(at, bytes int) uint64 {
		n := uint64(0)
		for i := range bytes {
			n |= uint64(b[at+i]) << (8 * i)
		}
		return n
	}
	x := api.Super{
		Blocks:  int(number(8, 4)),
		Counter: number(16, 8),
		Table:   with(int(number(24, 4)), uint32(number(32, 4)), api.Sum(b[36:68])),
		Inodes:  int(number(28, 4)),
		Map:     with(int(number(68, 4)), uint32(number(72, 4)), api.Sum(b[76:108])),
		Used:    int(number(108, 4)),
	}
	zeros := slices.Concat(b[12:16], b[112:])
	if string(b[:8]) != "signet01" || slices.Max(zeros) != 0 || !mayBe(x) {
		return api.Super{}, api.ErrSuper
	}
	return x, api.OK
}

// drawn is a root that may be, drawn.
func drawn(r *rand.Rand) api.Super {
	x := api.Super{Blocks: 16 + r.IntN(8177)>>r.IntN(10), Counter: r.Uint64() >> r.IntN(65), Inodes: 1 + r.IntN(4096)>>r.IntN(13)}
	x.Used = 3 + r.IntN(x.Blocks-3)
	ats := r.Perm(x.Blocks - 1)
	x.Table = with(leastFor((x.Inodes+3)/4), uint32(ats[0]+1), drawnSum(r))
	x.Map = with(leastFor((x.Blocks+1023)/1024), uint32(ats[1]+1), drawnSum(r))
	return x
}

// drawnSum is a digest, drawn.
func drawnSum(r *rand.Rand) api.Sum {
	var s api.Sum
	for i := range s {
		s[i] = byte(r.Uint32())
	}
	return s
}

// The model itself: what the lists say of themselves is what it tells, so that neither is wrong alone.
func TestTheListsAreRight(t *testing.T) {
	for _, x := range rights() {
		if !mayBe(x) {
			t.Errorf("%+v may not be, and stands among those that may", x)
		}
	}
	for _, x := range wrongs() {
		if mayBe(x) {
			t.Errorf("%+v may be, and stands among those that may not", x)
		}
	}
}

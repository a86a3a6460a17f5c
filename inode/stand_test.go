package inode_test

import (
	"math"
	"math/rand/v2"
	"slices"
	"testing"

	"signet/api"
)

// wrongInts are numbers that no part of an inode may be.
var wrongInts = []int{-1, -2, -64, -256, -1 << 16, -1 << 32, math.MinInt, math.MinInt + 1, math.MaxInt, math.MaxInt - 1, math.MaxInt - 63, math.MaxInt - 255, 1 << 32, 1<<32 + 1, 1 << 62}

// heights is sizes with the least heights for them, written out.
var heights = []struct{ size, height int }{
	{0, 0}, {1, 0}, {64, 0}, {255, 0}, {256, 0},
	{257, 1}, {320, 1}, {512, 1}, {1023, 1}, {1024, 1},
	{1025, 2}, {1088, 2}, {4095, 2}, {4096, 2},
	{4097, 3}, {4160, 3}, {16384, 3},
	{16385, 4}, {16448, 4}, {65536, 4},
	{65537, 5}, {65600, 5}, {262144, 5},
	{262145, 6}, {262208, 6}, {1048575, 6}, {1048576, 6},
}

// roots is references that an inode with bytes may have.
var roots = []api.Ref{
	{},
	{At: 1},
	{At: 1, Sum: api.Sum{31: 1}},
	{At: 255, Sum: sum(9)},
	{At: 256, Sum: api.Sum{1}},
	{At: api.MaxBlocks - 1},
	{At: api.MaxBlocks - 1, Sum: sum(255)},
}

// wrongRoots is references that no inode may have.
var wrongRoots = []api.Ref{
	{Sum: api.Sum{1}}, {Sum: api.Sum{15: 7}}, {Sum: api.Sum{31: 0x80}}, {Sum: sum(3)},
	{At: api.MaxBlocks}, {At: api.MaxBlocks, Sum: sum(4)}, {At: api.MaxBlocks + 1, Sum: sum(5)}, {At: 1 << 16, Sum: sum(6)}, {At: 1 << 24, Sum: sum(7)},
	{At: 1 << 31, Sum: sum(8)}, {At: math.MaxUint32}, {At: math.MaxUint32, Sum: sum(1)},
}

var stamps = []uint64{0, 1, 255, 256, 1 << 32, 1 << 63, math.MaxUint64}

// sum is a digest of unlike bytes, none of which is zero.
func sum(first byte) api.Sum {
	var s api.Sum
	for i := range s {
		s[i] = first ^ byte(i*8) | 1
	}
	return s
}

// with is a tree.
func with(height int, root api.Ref) api.Tree {
	return api.Tree{Height: height, Root: root}
}

// greatest is an inode whose parts are all as great as they may be.
func greatest() api.Inode {
	root := api.Ref{At: api.MaxBlocks - 1}
	for i := range root.Sum {
		root.Sum[i] = 0xff
	}
	return api.Inode{Kind: api.KindFile, Links: 1000, Size: 1048576, Stamp: math.MaxUint64, Tree: with(6, root)}
}

// rights is inodes that may be: the zero one, and others of both kinds, with each size, and with each other part at its edges.
func rights() []api.Inode {
	l := []api.Inode{{}, greatest()}
	for _, h := range heights {
		for i, root := range roots {
			if h.size == 0 {
				root = api.Ref{}
			}
			stamp := stamps[i%len(stamps)]
			l = append(l, api.Inode{Kind: api.KindFile, Links: 1 + i, Size: h.size, Stamp: stamp, Tree: with(h.height, root)})
			if h.size%64 == 0 {
				l = append(l, api.Inode{Kind: api.KindDir, Links: 1, Size: h.size, Stamp: stamp, Tree: with(h.height, root)})
			}
		}
	}
	for _, links := range []int{1, 2, 3, 255, 256, 257, 999, 1000} {
		l = append(l, api.Inode{Kind: api.KindFile, Links: links})
	}
	for _, stamp := range stamps {
		l = append(l, api.Inode{Kind: api.KindDir, Links: 1, Stamp: stamp})
	}
	return l
}

// wrongs is inodes that may not be, each by one of its parts.
func wrongs() []api.Inode {
	l := []api.Inode{
		{Links: 1}, {Links: -1}, {Links: 1000}, {Size: 1}, {Size: 64}, {Size: -1}, {Size: 1048576}, {Stamp: 1}, {Stamp: math.MaxUint64},
		{Tree: with(1, api.Ref{})}, {Tree: with(-1, api.Ref{})}, {Tree: with(0, api.Ref{At: 1})}, {Tree: with(0, api.Ref{At: 1, Sum: sum(1)})}, {Tree: with(0, api.Ref{Sum: api.Sum{31: 1}})},
	}
	file, dir := greatest(), greatest()
	dir.Kind, dir.Links = api.KindDir, 1
	for _, x := range []api.Inode{file, dir, {Kind: api.KindFile, Links: 1}, {Kind: api.KindDir, Links: 1}} {
		l = append(l, spoilt(x)...)
	}
	for _, size := range []int{1, 2, 32, 63, 65, 127, 129, 255, 257, 1023, 1025, 1048575} {
		i := slices.IndexFunc(heights, func(h struct{ size, height int }) bool { return h.size >= size })
		l = append(l, api.Inode{Kind: api.KindDir, Links: 1, Size: size, Tree: with(heights[i].height, api.Ref{At: 5, Sum: sum(5)})})
	}
	return append(l, wrongTrees()...)
}

// spoilt is an inode with one part after the other put to what it may not be.
func spoilt(x api.Inode) []api.Inode {
	var l []api.Inode
	for _, n := range append([]int{0, 3, 4, 255, 256, 257, 258, 1 << 16, 1<<16 + 1, 1<<16 + 2}, wrongInts...) {
		y := x
		y.Kind = n
		l = append(l, y)
	}
	for _, n := range append([]int{0, 1001, 1002, 1 << 16, 1<<16 + 1, 2000}, wrongInts...) {
		y := x
		y.Links = n
		l = append(l, y)
	}
	if x.Kind == api.KindDir {
		for _, n := range []int{2, 3, 64, 256, 257, 999, 1000} {
			y := x
			y.Links = n
			l = append(l, y)
		}
	}
	for _, n := range append([]int{1048577, 1048576 + 64, 1048576 + 256, 2 * 1048576, 4 * 1048576}, wrongInts...) {
		y := x
		y.Size = n
		l = append(l, y)
	}
	return l
}

// wrongTrees is inodes whose tree is none for their size.
func wrongTrees() []api.Inode {
	var l []api.Inode
	for _, h := range heights {
		x := api.Inode{Kind: api.KindFile, Links: 1, Size: h.size, Stamp: 4, Tree: with(h.height, api.Ref{})}
		if h.size%64 == 0 {
			x.Kind = api.KindDir
		}
		for _, height := range append([]int{h.height - 1, h.height + 1, h.height + 2, 7, 8, 256 + h.height, 1<<16 + h.height}, wrongInts...) {
			y := x
			y.Tree.Height = height
			l = append(l, y)
		}
		for _, root := range wrongRoots {
			y := x
			y.Tree.Root = root
			l = append(l, y)
		}
		if h.size > 0 {
			continue
		}
		for _, root := range roots[1:] {
			y := x
			y.Tree.Root = root
			l = append(l, y)
		}
	}
	return l
}

// heightOf is the least height for so many bytes, looked for among all.
func heightOf(size int) int {
	for height, leaves := range []int{1, 4, 16, 64, 256, 1024, 4096} {
		if size <= leaves*256 {
			return height
		}
	}
	return -1
}

// mayBe tells whether an inode may be, condition by condition.
func mayBe(x api.Inode) bool {
	if x == (api.Inode{}) {
		return true
	}
	if x.Kind != 1 && x.Kind != 2 {
		return false
	}
	if x.Links < 1 || x.Links > 1000 || x.Kind == 2 && x.Links != 1 {
		return false
	}
	if x.Size < 0 || x.Size > 1048576 || x.Kind == 2 && x.Size%64 != 0 {
		return false
	}
	if x.Tree.Height != heightOf(x.Size) || x.Tree.Root.At >= 8192 {
		return false
	}
	if x.Tree.Root.At == 0 || x.Size == 0 {
		return x.Tree.Root == api.Ref{}
	}
	return true
}

// inBytes is an inode in bytes, laid byte by byte as the document says, whether it may be or not.
func inBytes(x api.Inode) []byte {
	b := make([]byte, 0, 64)
	lay := func(n uint64, bytes int) {
		for range bytes {
			b = append(b, byte(n))
			n >>= 8
		}
	}
	lay(uint64(x.Kind), 2)
	lay(uint64(x.Links), 2)
	lay(uint64(x.Tree.Height), 2)
	lay(0, 2)
	lay(uint64(x.Size), 8)
	lay(x.Stamp, 8)
	lay(uint64(x.Tree.Root.At), 4)
	b = append(b, x.Tree.Root.Sum[:]...)
	lay(0, 4)
	return b
}

// ofBytes is what 64 bytes say, asked byte by byte.
func ofBytes(b []byte) (api.Inode, api.Errno) {
	number := func(at, bytes int) uint64 {
		n := uint64(0)
		for i := range bytes {
			n |= uint64(b[at+i]) << (8 * i)
		}
		return n
	}
	x := api.Inode{Kind: int(number(0, 2)), Links: int(number(2, 2)), Size: int(number(8, 8)), Stamp: number(16, 8), Tree: with(int(number(4, 2)), api.Ref{At: uint32(number(24, 4)), Sum: api.Sum(b[28:60])})}
	if number(6, 2) != 0 || number(60, 4) != 0 || !mayBe(x) {
		return api.Inode{}, api.ErrInode
	}
	return x, api.OK
}

// drawn is an inode that may be, drawn.
func drawn(r *rand.Rand) api.Inode {
	if r.IntN(8) == 0 {
		return api.Inode{}
	}
	x := api.Inode{Kind: 1 + r.IntN(2), Links: 1, Stamp: r.Uint64()}
	x.Size = r.IntN(1048577) >> r.IntN(21)
	if x.Kind == 2 {
		x.Size -= x.Size % 64
	} else {
		x.Links = 1 + r.IntN(1000)
	}
	x.Tree.Height = heightOf(x.Size)
	if x.Size == 0 || r.IntN(4) == 0 {
		return x
	}
	x.Tree.Root.At = 1 + r.Uint32N(8191)
	for i := range x.Tree.Root.Sum {
		x.Tree.Root.Sum[i] = byte(r.Uint32())
	}
	return x
}

// wantErr fails where there is not just an error, with zero values beside it.
func wantErr(t *testing.T, what string, got, want api.Errno, rest ...bool) {
	t.Helper()
	if got != want {
		t.Errorf("%s: error %d; want %d", what, got, want)
	}
	if slices.Contains(rest, false) {
		t.Errorf("%s: what stands beside error %d is not the zero value", what, got)
	}
}

package block_test

import (
	"math"
	"math/rand"
	"slices"
	"testing"

	"signet/api"
	"signet/block"
)

// 4.6

func TestPatches(t *testing.T) {
	all := block.Text(stepped(255, 0))
	for _, c := range []struct {
		a, b api.Block
		want []api.Patch
	}{
		{api.Block{}, api.Block{}, nil},
		{stepped(7, 3), stepped(7, 3), nil},
		{api.Block{}, api.Block{0: 'a'}, []api.Patch{{At: 0, Data: "a"}}},
		{api.Block{0: 'a'}, api.Block{}, []api.Patch{{At: 0, Data: "\x00"}}},
		{api.Block{}, api.Block{0: 'a', 1: 'b'}, []api.Patch{{At: 0, Data: "ab"}}},
		{api.Block{}, api.Block{255: 'z'}, []api.Patch{{At: 255, Data: "z"}}},
		{api.Block{}, api.Block{254: 'y', 255: 'z'}, []api.Patch{{At: 254, Data: "yz"}}},
		{api.Block{}, api.Block{0: 'a', 255: 'z'}, []api.Patch{{At: 0, Data: "a"}, {At: 255, Data: "z"}}},
		{api.Block{}, api.Block{100: 1, 102: 2}, []api.Patch{{At: 100, Data: "\x01"}, {At: 102, Data: "\x02"}}},
		{api.Block{101: 7}, api.Block{100: 1, 101: 7, 102: 2}, []api.Patch{{At: 100, Data: "\x01"}, {At: 102, Data: "\x02"}}},
		{api.Block{}, api.Block{100: 1, 103: 2}, []api.Patch{{At: 100, Data: "\x01"}, {At: 103, Data: "\x02"}}},
		{api.Block{}, api.Block{100: 1, 101: 3, 102: 2}, []api.Patch{{At: 100, Data: "\x01\x03\x02"}}},
		{api.Block{253: 9}, api.Block{253: 0, 255: 9}, []api.Patch{{At: 253, Data: "\x00"}, {At: 255, Data: "\x09"}}},
		{api.Block{}, stepped(255, 0), []api.Patch{{At: 0, Data: all}}},
		{api.Block{}, stepped(0, 1), []api.Patch{{At: 1, Data: block.Text(stepped(0, 1))[1:]}}},
		{stepped(1, 1), api.Block{}, []api.Patch{{At: 0, Data: block.Text(api.Block{})[:255]}}},
	} {
		if got := block.Patches(c.a, c.b); !slices.Equal(got, c.want) {
			t.Errorf("Patches(%v, %v) = %v, want %v", c.a, c.b, got, c.want)
		}
	}
}

// Every other place, from the first or from the second on.
func TestPatchesOfSingleBytes(t *testing.T) {
	for first := range 2 {
		var b api.Block
		var want []api.Patch
		for at := first; at < 256; at += 2 {
			b[at] = byte(at) | 1
			want = append(want, api.Patch{At: at, Data: string([]byte{byte(at) | 1})})
		}
		if got := block.Patches(api.Block{}, b); !slices.Equal(got, want) || len(got) != 128 {
			t.Errorf("%v, want %v", got, want)
		}
	}
}

// pairs is pairs of blocks that differ at few and at many places.
func pairs() [][2]api.Block {
	var l [][2]api.Block
	for _, a := range some() {
		for _, b := range some() {
			l = append(l, [2]api.Block{a, b})
		}
	}
	r := rand.New(rand.NewSource(6))
	for range 200 {
		var a, b api.Block
		for i := range a {
			a[i], b[i] = byte(r.Intn(2)), byte(r.Intn(2))
		}
		l = append(l, [2]api.Block{a, b})
	}
	return l
}

// Rising stretches that nothing longer holds: all their places differ, and those beside them do not.
func TestPatchesAreTheLongest(t *testing.T) {
	for _, p := range pairs() {
		a, b := p[0], p[1]
		behind := -1 // the place behind the stretch ahead, at which both are alike
		for _, patch := range block.Patches(a, b) {
			if patch.At <= behind || patch.Data == "" {
				t.Fatalf("%v stands behind %d", patch, behind)
			}
			for i := behind + 1; i < patch.At; i++ {
				if a[i] != b[i] {
					t.Fatalf("%d is in no patch", i)
				}
			}
			for i := range len(patch.Data) {
				if a[patch.At+i] == b[patch.At+i] || patch.Data[i] != b[patch.At+i] {
					t.Fatalf("%v is wrong at %d", patch, patch.At+i)
				}
			}
			behind = patch.At + len(patch.Data)
			if behind < 256 && a[behind] != b[behind] {
				t.Fatalf("%v is not the longest", patch)
			}
		}
		for i := behind + 1; i < 256; i++ {
			if a[i] != b[i] {
				t.Fatalf("%d is in no patch", i)
			}
		}
	}
}

func TestApply(t *testing.T) {
	all := block.Text(stepped(0, 1))
	for _, c := range []struct {
		a    api.Block
		l    []api.Patch
		want api.Block
	}{
		{stepped(3, 7), nil, stepped(3, 7)},
		{stepped(3, 7), []api.Patch{}, stepped(3, 7)},
		{api.Block{}, []api.Patch{{At: 0, Data: "a"}}, api.Block{0: 'a'}},
		{api.Block{}, []api.Patch{{At: 255, Data: "z"}}, api.Block{255: 'z'}},
		{api.Block{}, []api.Patch{{At: 0, Data: all}}, stepped(0, 1)},
		{api.Block{}, []api.Patch{{At: 1, Data: all[1:]}}, stepped(0, 1)},
		{api.Block{}, []api.Patch{{At: 0, Data: "a"}, {At: 2, Data: "b"}}, api.Block{0: 'a', 2: 'b'}},
		{api.Block{}, []api.Patch{{At: 2, Data: "b"}, {At: 0, Data: "a"}}, api.Block{0: 'a', 2: 'b'}},
		{api.Block{}, []api.Patch{{At: 0, Data: "abc"}, {At: 1, Data: "xyz"}}, api.Block{'a', 'x', 'y', 'z'}},
		{api.Block{}, []api.Patch{{At: 1, Data: "xyz"}, {At: 0, Data: "abc"}}, api.Block{'a', 'b', 'c', 'z'}},
		{api.Block{}, []api.Patch{{At: 9, Data: "a"}, {At: 9, Data: "b"}, {At: 9, Data: "c"}}, api.Block{9: 'c'}},
		{api.Block{9: 1}, []api.Patch{{At: 9, Data: "a"}, {At: 9, Data: "\x00"}}, api.Block{}},
		{stepped(3, 7), []api.Patch{{At: 0}, {At: 255}, {At: 256}, {}, {At: 128, Data: ""}}, stepped(3, 7)},
		{api.Block{}, []api.Patch{{At: 256}, {At: 4, Data: "d"}, {At: 4}}, api.Block{4: 'd'}},
	} {
		if got, at, err := block.Apply(c.a, c.l); got != c.want || at != 0 || err != api.OK {
			t.Errorf("Apply(%v, %v) = %v, %d, %d", c.a, c.l, got, at, err)
		}
	}
}

func TestApplyOfWhatDoesNotFit(t *testing.T) {
	good := api.Patch{At: 3, Data: "good"}
	long := text(257)
	for _, bad := range []api.Patch{
		{At: -1}, {At: -1, Data: "a"}, {At: -1, Data: "ab"}, {At: -256, Data: long}, {At: math.MinInt}, {At: math.MinInt, Data: "a"},
		{At: 0, Data: long}, {At: 1, Data: long[:256]}, {At: 255, Data: "ab"}, {At: 256, Data: "a"}, {At: 257}, {At: 257, Data: "a"},
		{At: math.MaxInt}, {At: math.MaxInt, Data: "a"}, {At: math.MaxInt, Data: long},
	} {
		for _, c := range []struct {
			l     []api.Patch
			place int
		}{
			{[]api.Patch{bad}, 0},
			{[]api.Patch{bad, good}, 0},
			{[]api.Patch{bad, bad}, 0},
			{[]api.Patch{good, bad}, 1},
			{[]api.Patch{good, {At: 256}, good, bad, good, bad}, 3},
		} {
			got, at, err := block.Apply(stepped(1, 1), c.l)
			if got != (api.Block{}) || at != c.place || err != api.ErrBytes {
				t.Errorf("Apply of %v: %v, %d, %d", c.l, got, at, err)
			}
		}
	}
}

func TestNear(t *testing.T) {
	x, y := stepped(0, 1), stepped(255, 0)
	one, other, two := x, x, x
	one[0]++
	other[255]++
	two[7]++
	two[9]++
	far := x
	for i := range far {
		far[i] ^= 255
	}
	for _, c := range []struct {
		l        []api.Block
		b        api.Block
		at, many int
	}{
		{nil, x, -1, 0},
		{nil, api.Block{}, -1, 0},
		{[]api.Block{}, x, -1, 0},
		{[]api.Block{x}, x, 0, 0},
		{[]api.Block{{}}, api.Block{}, 0, 0},
		{[]api.Block{far}, x, 0, 256},
		{[]api.Block{far, far}, x, 0, 256},
		{[]api.Block{far, two}, x, 1, 2},
		{[]api.Block{one, other}, x, 0, 1},
		{[]api.Block{other, one}, x, 0, 1},
		{[]api.Block{two, other, one}, x, 1, 1},
		{[]api.Block{y, two, one, other, two}, x, 2, 1},
		{[]api.Block{one, x, other, x}, x, 1, 0},
		{[]api.Block{x, x, x}, x, 0, 0},
		{[]api.Block{one, other, two, far, y, x}, x, 5, 0},
	} {
		if at, many := block.Near(c.l, c.b); at != c.at || many != c.many {
			t.Errorf("Near(%v, %v) = %d, %d; want %d, %d", c.l, c.b, at, many, c.at, c.many)
		}
	}
}

// 4.7

func TestApplyOfPatches(t *testing.T) {
	for _, p := range pairs() {
		a, b := p[0], p[1]
		if got, at, err := block.Apply(a, block.Patches(a, b)); got != b || at != 0 || err != api.OK {
			t.Errorf("%v became %v, %d, %d; want %v", a, got, at, err, b)
		}
	}
}

func TestPatchesOfABlockAndIt(t *testing.T) {
	for _, b := range some() {
		if l := block.Patches(b, b); len(l) != 0 {
			t.Errorf("Patches(%v, it) = %v", b, l)
		}
	}
}

func TestPatchesHaveWhatDifferCounts(t *testing.T) {
	for _, p := range pairs() {
		together := 0
		for _, patch := range block.Patches(p[0], p[1]) {
			together += len(patch.Data)
		}
		if _, many := block.Differ(p[0], p[1]); together != many {
			t.Errorf("%d bytes in patches, %d places differ", together, many)
		}
	}
}

// What holds everywhere: R4.

func TestPatchesHandedInStay(t *testing.T) {
	l := []api.Patch{{At: 0, Data: "abc"}, {At: 1, Data: "x"}, {At: 255, Data: "too long"}, {At: 7, Data: "spare"}}
	before := slices.Clone(l)
	block.Apply(api.Block{}, l[:2])
	block.Apply(api.Block{}, l[:3])
	if !slices.Equal(l, before) {
		t.Error("a list that was handed in is changed")
	}
}

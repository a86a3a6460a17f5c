package room_test

import (
	"math"
	"math/rand/v2"
	"slices"
	"testing"

	"signet/api"
	"signet/room"
)

// numbers are how many blocks rooms have here: the fewest, those about the ends of words and leaves, and the most.
var numbers = []int{api.MinBlocks, 17, 63, 64, 65, 100, 1023, 1024, 1025, 2048, 5000, api.MaxBlocks - 1, api.MaxBlocks}

// wrongNumbers are numbers of blocks that no room has.
var wrongNumbers = []int{-1, 0, 1, api.MinBlocks - 1, api.MaxBlocks + 1, -api.MinBlocks, 1 << 20, 1 << 32, 1<<32 + api.MinBlocks, math.MinInt, math.MaxInt}

// states are all that a block may have.
var states = []int{api.RoomNone, api.RoomFree, api.RoomUsed, api.RoomTaken, api.RoomLet}

// noStates are numbers that are no state.
var noStates = []int{-1, 5, -2, 6, 64, 256, math.MinInt, math.MaxInt}

// plain is a room in the plainest way: the state of each block.
type plain []int

// of is a plain room of so many blocks, some of which are used.
func of(blocks int, used ...uint32) plain {
	p := make(plain, blocks)
	for at := 1; at < blocks; at++ {
		p[at] = api.RoomFree
	}
	for _, at := range used {
		p[at] = api.RoomUsed
	}
	return p
}

// list is the blocks of a state.
func (p plain) list(state int) []uint32 {
	var l []uint32
	for at, is := range p {
		if is == state {
			l = append(l, uint32(at))
		}
	}
	return l
}

// runs is the stretches of a state.
func (p plain) runs(state int) []api.Run {
	var l []api.Run
	for at, is := range p {
		switch {
		case is != state:
		case at > 0 && p[at-1] == state:
			l[len(l)-1].To = at
		default:
			l = append(l, api.Run{From: at, To: at})
		}
	}
	return l
}

// longest is the first of the longest stretches of a state, and how long it is.
func (p plain) longest(state int) (uint32, int) {
	l := p.runs(state)
	if len(l) == 0 {
		return 0, 0
	}
	slices.SortStableFunc(l, func(a, b api.Run) int { return (b.To - b.From) - (a.To - a.From) })
	return uint32(l[0].From), l[0].To - l[0].From + 1
}

// leaves is the map leaves, byte by byte as the document lays them.
func (p plain) leaves() []api.Block {
	l := make([]api.Block, (len(p)+1023)/1024)
	for k := range l {
		copy(l[k][:], "bits")
		l[k][4] = byte(k)
	}
	for at, is := range p {
		if is == api.RoomUsed || is == api.RoomTaken {
			l[at>>10][128+((at&1023)>>3)] |= 1 << (at & 7)
		}
	}
	return l
}

// turn makes each state of a pair's first the second.
func (p plain) turn(pairs ...[2]int) {
	for at, is := range p {
		for _, pair := range pairs {
			if is == pair[0] {
				p[at] = pair[1]
			}
		}
	}
}

func (p plain) swing() {
	p.turn([2]int{api.RoomTaken, api.RoomUsed}, [2]int{api.RoomLet, api.RoomFree})
}

func (p plain) back() {
	p.turn([2]int{api.RoomTaken, api.RoomFree}, [2]int{api.RoomLet, api.RoomUsed})
}

// let is the state of a block once it is let go, and whether it can be.
func let(state int) (int, bool) {
	switch state {
	case api.RoomUsed:
		return api.RoomLet, true
	case api.RoomTaken:
		return api.RoomFree, true
	}
	return state, false
}

// made is a room of so many blocks, some of which are used.
func made(t *testing.T, blocks int, used ...uint32) *room.Room {
	t.Helper()
	r, place, err := room.New(blocks, used)
	if r == nil || place != 0 || err != api.OK {
		t.Fatalf("New(%d, %v) = %v, %d, %d", blocks, used, r, place, err)
	}
	return r
}

// takes takes just these blocks, one by one.
func takes(t *testing.T, r *room.Room, want ...uint32) {
	t.Helper()
	for _, at := range want {
		if got, err := r.Take(); got != at || err != api.OK {
			t.Fatalf("Take = %d, %d; want %d", got, err, at)
		}
	}
}

// lets lets these blocks go.
func lets(t *testing.T, r *room.Room, l ...uint32) {
	t.Helper()
	for _, at := range l {
		if err := r.Let(at); err != api.OK {
			t.Fatalf("Let(%d) = %d", at, err)
		}
	}
}

// outside is numbers that no block of a room has.
func outside(blocks int) []uint32 {
	n := uint32(blocks)
	return []uint32{n, n + 1, 2 * n, 1 << 16, 1 << 31, 1<<31 - 1, 1<<31 + 1, math.MaxUint32, math.MaxUint32 - n}
}

// is asks a room for the state of each block, and of what is no block of it.
func is(t *testing.T, what string, r *room.Room, p plain) {
	t.Helper()
	if r.Blocks() != len(p) {
		t.Fatalf("%s: Blocks = %d; want %d", what, r.Blocks(), len(p))
	}
	for at, want := range p {
		if got := r.State(uint32(at)); got != want {
			t.Fatalf("%s: State(%d) = %d of %d blocks; want %d", what, at, got, len(p), want)
		}
	}
	for _, at := range outside(len(p)) {
		if got := r.State(at); got != api.RoomNone {
			t.Fatalf("%s: State(%d) = %d of %d blocks", what, at, got, len(p))
		}
	}
}

// holds asks a room for all that can be asked of it.
func holds(t *testing.T, what string, r *room.Room, p plain) {
	t.Helper()
	is(t, what, r, p)
	for _, state := range slices.Concat(states, noStates) {
		list := p.list(state)
		if got := r.Count(state); got != len(list) {
			t.Errorf("%s: Count(%d) = %d; want %d", what, state, got, len(list))
		}
		if got := r.List(state); !slices.Equal(got, list) {
			t.Errorf("%s: List(%d) = %v; want %v", what, state, got, list)
		}
		if got, want := r.Runs(state), p.runs(state); !slices.Equal(got, want) {
			t.Errorf("%s: Runs(%d) = %v; want %v", what, state, got, want)
		}
		first, long := p.longest(state)
		if at, n := r.Longest(state); at != first || n != long {
			t.Errorf("%s: Longest(%d) = %d, %d; want %d, %d", what, state, at, n, first, long)
		}
	}
	if got, want := r.Leaves(), p.leaves(); !slices.Equal(got, want) {
		t.Errorf("%s: Leaves = %v; want %v", what, got, want)
	}
}

// byChance is a room whose blocks are in all states by chance, and its plain one.
func byChance(t *testing.T, c *rand.Rand, blocks int) (*room.Room, plain) {
	t.Helper()
	var used []uint32
	for at := 1; at < blocks; at++ {
		if c.IntN(3) > 0 {
			used = append(used, uint32(at))
		}
	}
	r, p := made(t, blocks, used...), of(blocks, used...)
	for range c.IntN(blocks) {
		if at, err := r.Take(); err == api.OK {
			p[at] = api.RoomTaken
		}
	}
	for at, state := range p {
		next, can := let(state)
		if can && c.IntN(3) == 0 {
			lets(t, r, uint32(at))
			p[at] = next
		}
	}
	return r, p
}

// chance is numbers that are the same in each run.
func chance(seed uint64) *rand.Rand {
	return rand.New(rand.NewPCG(12, seed))
}

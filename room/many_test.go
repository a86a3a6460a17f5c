package room_test

import (
	"math"
	"slices"
	"testing"

	"signet/api"
	"signet/room"
)

// 12.7

func TestTakeMany(t *testing.T) {
	for _, blocks := range numbers {
		was, p := mixed(t, blocks)
		free := p.list(api.RoomFree)
		for _, n := range []int{0, 1, 2, len(free) / 2, len(free) - 1, len(free)} {
			r, want := was.Copy(), slices.Clone(p)
			got, err := r.TakeMany(n)
			if err != api.OK || !slices.Equal(got, free[:n]) {
				t.Fatalf("TakeMany(%d) of %d blocks = %v, %d; want %v", n, blocks, got, err, free[:n])
			}
			for _, at := range got {
				want[at] = api.RoomTaken
			}
			holds(t, "behind TakeMany", r, want)
			// They are taken just as Take would have.
			o := was.Copy()
			takes(t, o, got...)
			holds(t, "behind Takes", o, want)
		}
	}
}

func TestTakeManyOfWhatMayNotBe(t *testing.T) {
	for _, blocks := range numbers {
		r, p := mixed(t, blocks)
		free := r.Count(api.RoomFree)
		for _, n := range []int{-1, -2, -free, math.MinInt} {
			if l, err := r.TakeMany(n); len(l) != 0 || err != api.ErrArg {
				t.Errorf("TakeMany(%d) = %v, %d; want ErrArg", n, l, err)
			}
		}
		// One that is let go is not free yet.
		for _, n := range []int{free + 1, free + 2, blocks - 1, blocks, math.MaxInt} {
			if l, err := r.TakeMany(n); len(l) != 0 || err != api.ErrNoSpace {
				t.Errorf("TakeMany(%d) = %v, %d; want ErrNoSpace", n, l, err)
			}
		}
		holds(t, "behind wrong TakeManys", r, p)
	}
}

func TestTakeManyOfAFullRoom(t *testing.T) {
	r := made(t, 16)
	if l, err := r.TakeMany(15); len(l) != 15 || err != api.OK {
		t.Fatal(l, err)
	}
	if l, err := r.TakeMany(0); len(l) != 0 || err != api.OK {
		t.Errorf("TakeMany(0) = %v, %d", l, err)
	}
	if l, err := r.TakeMany(1); len(l) != 0 || err != api.ErrNoSpace {
		t.Errorf("TakeMany(1) = %v, %d; want ErrNoSpace", l, err)
	}
	if l, err := r.TakeMany(-1); len(l) != 0 || err != api.ErrArg {
		t.Errorf("TakeMany(-1) = %v, %d; want ErrArg", l, err)
	}
}

func TestLetAll(t *testing.T) {
	for _, blocks := range numbers {
		for _, l := range [][]uint32{nil, {}, {1}, {6}, {1, 3}, {6, 5, 3, 1}, {3, 1, 6}} {
			r, p := mixed(t, blocks)
			if place, err := r.LetAll(l); place != 0 || err != api.OK {
				t.Fatalf("LetAll(%v) = %d, %d", l, place, err)
			}
			for _, at := range l {
				p[at], _ = let(p[at])
			}
			holds(t, "behind LetAll", r, p)
		}
	}
}

func TestLetAllOfWhatMayNotBe(t *testing.T) {
	for _, blocks := range numbers {
		n := uint32(blocks)
		r, p := mixed(t, blocks)
		for _, c := range []struct {
			l     []uint32
			place int
		}{
			{[]uint32{0}, 0},
			{[]uint32{4}, 0},
			{[]uint32{2}, 0},
			{[]uint32{n - 1}, 0},
			{[]uint32{n}, 0},
			{[]uint32{math.MaxUint32}, 0},
			// Behind good ones: a free one, one let go, no block.
			{[]uint32{1, 3, 5, 7}, 3},
			{[]uint32{1, 2}, 1},
			{[]uint32{6, 3, 0}, 2},
			{[]uint32{5, n}, 1},
			{[]uint32{5, 1, math.MaxUint32}, 2},
			// Twice, a used one and a taken one.
			{[]uint32{1, 1}, 1},
			{[]uint32{3, 3}, 1},
			{[]uint32{1, 3, 5, 1}, 3},
			{[]uint32{3, 5, 6, 3}, 3},
			{[]uint32{5, 5, 5}, 1},
			// Two faults: the first is told.
			{[]uint32{0, 4}, 0},
			{[]uint32{1, 4, 1, 0}, 1},
			{[]uint32{1, 3, 3, n}, 2},
		} {
			was := slices.Clone(c.l)
			if place, err := r.LetAll(c.l); place != c.place || err != api.ErrBlock {
				t.Errorf("LetAll(%v) = %d, %d; want %d, ErrBlock", c.l, place, err, c.place)
			}
			if !slices.Equal(c.l, was) {
				t.Errorf("LetAll made %v of %v", c.l, was)
			}
			is(t, "behind a wrong LetAll", r, p)
		}
		holds(t, "behind wrong LetAlls", r, p)
	}
}

// A list is not kept, nor what is behind its end.
func TestLetAllLeavesItsList(t *testing.T) {
	r, p := mixed(t, 16)
	l := []uint32{3, 1, 99, 5}
	if place, err := r.LetAll(l[:2]); place != 0 || err != api.OK {
		t.Fatal(place, err)
	}
	if !slices.Equal(l, []uint32{3, 1, 99, 5}) {
		t.Errorf("the list is %v", l)
	}
	l[0], l[1] = 5, 6
	p[3], p[1] = api.RoomFree, api.RoomLet
	holds(t, "whose list was changed", r, p)
}

// runsAre asks for the stretches of a state and the longest of them.
func runsAre(t *testing.T, r *room.Room, state int, first uint32, long int, want ...api.Run) {
	t.Helper()
	if got := r.Runs(state); !slices.Equal(got, want) {
		t.Errorf("Runs(%d) = %v; want %v", state, got, want)
	}
	if at, n := r.Longest(state); at != first || n != long {
		t.Errorf("Longest(%d) = %d, %d; want %d, %d", state, at, n, first, long)
	}
}

func run(from, to int) api.Run {
	return api.Run{From: from, To: to}
}

func TestRunsOfEachState(t *testing.T) {
	r := made(t, 30, 3, 4, 8, 9, 10, 20, 21, 22, 29)
	runsAre(t, r, api.RoomNone, 0, 1, run(0, 0))
	// From the first free block on, and several, the longest in the middle.
	runsAre(t, r, api.RoomFree, 11, 9, run(1, 2), run(5, 7), run(11, 19), run(23, 28))
	// Two of the same length: the first. One of one block, the last one.
	runsAre(t, r, api.RoomUsed, 8, 3, run(3, 4), run(8, 10), run(20, 22), run(29, 29))
	runsAre(t, r, api.RoomTaken, 0, 0)
	runsAre(t, r, api.RoomLet, 0, 0)
	takes(t, r, 1, 2, 5, 6, 7, 11)
	runsAre(t, r, api.RoomTaken, 5, 3, run(1, 2), run(5, 7), run(11, 11))
	runsAre(t, r, api.RoomFree, 12, 8, run(12, 19), run(23, 28))
	lets(t, r, 21, 22, 29, 3, 8, 6)
	runsAre(t, r, api.RoomLet, 21, 2, run(3, 3), run(8, 8), run(21, 22), run(29, 29))
	runsAre(t, r, api.RoomUsed, 9, 2, run(4, 4), run(9, 10), run(20, 20))
	runsAre(t, r, api.RoomTaken, 1, 2, run(1, 2), run(5, 5), run(7, 7), run(11, 11))
	for _, state := range noStates {
		runsAre(t, r, state, 0, 0)
	}
}

func TestRunsOfAllBlocks(t *testing.T) {
	for _, blocks := range numbers {
		r := made(t, blocks)
		all := run(1, blocks-1)
		runsAre(t, r, api.RoomFree, 1, blocks-1, all)
		if _, err := r.TakeMany(blocks - 1); err != api.OK {
			t.Fatal(err)
		}
		runsAre(t, r, api.RoomFree, 0, 0)
		runsAre(t, r, api.RoomTaken, 1, blocks-1, all)
		r.Swing()
		runsAre(t, r, api.RoomUsed, 1, blocks-1, all)
		if _, err := r.LetAll(r.List(api.RoomUsed)); err != api.OK {
			t.Fatal(err)
		}
		runsAre(t, r, api.RoomUsed, 0, 0)
		runsAre(t, r, api.RoomLet, 1, blocks-1, all)
		r.Swing()
		runsAre(t, r, api.RoomFree, 1, blocks-1, all)
	}
}

// Several of the same length, one block each: the first is told.
func TestLongestOfSeveral(t *testing.T) {
	r := made(t, 16, 2, 4, 6)
	runsAre(t, r, api.RoomUsed, 2, 1, run(2, 2), run(4, 4), run(6, 6))
	runsAre(t, made(t, 16, 15), api.RoomUsed, 15, 1, run(15, 15))
	runsAre(t, made(t, 16, 1), api.RoomUsed, 1, 1, run(1, 1))
	runsAre(t, made(t, 16, 1, 14, 15), api.RoomUsed, 14, 2, run(1, 1), run(14, 15))
}

// 12.8

func TestTakeManyTellsUnlikeNumbersRising(t *testing.T) {
	c := chance(1)
	for _, blocks := range numbers {
		r, _ := byChance(t, c, blocks)
		n := c.IntN(r.Count(api.RoomFree) + 1)
		l, err := r.TakeMany(n)
		if err != api.OK || len(l) != n {
			t.Fatalf("TakeMany(%d) = %v, %d", n, l, err)
		}
		for i := 1; i < n; i++ {
			if l[i] <= l[i-1] {
				t.Errorf("TakeMany tells %d behind %d", l[i], l[i-1])
			}
		}
	}
}

func TestRunsTogetherHaveTheCount(t *testing.T) {
	c := chance(2)
	for _, blocks := range numbers {
		r, _ := byChance(t, c, blocks)
		for _, state := range states {
			many := 0
			for _, l := range r.Runs(state) {
				many += l.To - l.From + 1
			}
			if many != r.Count(state) {
				t.Errorf("the runs of %d have %d blocks, Count = %d", state, many, r.Count(state))
			}
		}
	}
}

package room_test

import (
	"slices"
	"testing"

	"signet/api"
	"signet/room"
)

// mixed is a room with blocks of each state, and its plain one.
func mixed(t *testing.T, blocks int) (*room.Room, plain) {
	t.Helper()
	last := uint32(blocks - 1)
	r, p := made(t, blocks, 1, 2, 5, last), of(blocks, 1, 2, 5, last)
	takes(t, r, 3, 4, 6)
	lets(t, r, 2, last, 4)
	p[2], p[last] = api.RoomLet, api.RoomLet
	p[3], p[6] = api.RoomTaken, api.RoomTaken
	return r, p
}

// 12.4

func TestStates(t *testing.T) {
	for _, blocks := range numbers {
		r, p := mixed(t, blocks)
		holds(t, "with all states", r, p)
		r.Swing()
		p.swing()
		holds(t, "behind a swing", r, p)
		r, p = mixed(t, blocks)
		r.Back()
		p.back()
		holds(t, "behind a way back", r, p)
	}
	r, _ := mixed(t, 16)
	for at, want := range []int{api.RoomNone, api.RoomUsed, api.RoomLet, api.RoomTaken, api.RoomFree, api.RoomUsed, api.RoomTaken, api.RoomFree} {
		if got := r.State(uint32(at)); got != want {
			t.Errorf("State(%d) = %d; want %d", at, got, want)
		}
	}
}

func TestCountsAndListsOfEachState(t *testing.T) {
	r, _ := mixed(t, 16)
	for state, want := range map[int][]uint32{
		api.RoomNone:  {0},
		api.RoomFree:  {4, 7, 8, 9, 10, 11, 12, 13, 14},
		api.RoomUsed:  {1, 5},
		api.RoomTaken: {3, 6},
		api.RoomLet:   {2, 15},
		-1:            nil,
		5:             nil,
	} {
		if got := r.Count(state); got != len(want) {
			t.Errorf("Count(%d) = %d; want %d", state, got, len(want))
		}
		if got := r.List(state); !slices.Equal(got, want) {
			t.Errorf("List(%d) = %v; want %v", state, got, want)
		}
	}
}

func TestCountsOfAFreshRoom(t *testing.T) {
	for _, blocks := range numbers {
		r := made(t, blocks)
		for state, want := range []int{1, blocks - 1, 0, 0, 0} {
			if got := r.Count(state); got != want {
				t.Errorf("Count(%d) of %d blocks = %d; want %d", state, blocks, got, want)
			}
		}
	}
}

// leavesAre asks that the map leaves have ones at just these blocks.
func leavesAre(t *testing.T, what string, r *room.Room, ones ...uint32) {
	t.Helper()
	if got, want := r.Leaves(), of(r.Blocks(), ones...).leaves(); !slices.Equal(got, want) {
		t.Errorf("%s: Leaves = %v; want those of %v", what, got, ones)
	}
}

func TestLeavesAreThoseBehindASwing(t *testing.T) {
	for _, blocks := range numbers {
		last := uint32(blocks - 1)
		r := made(t, blocks)
		leavesAre(t, "of nothing", r)
		r = made(t, blocks, 1, 9, last)
		leavesAre(t, "of used blocks", r, 1, 9, last)
		takes(t, r, 2, 3)
		leavesAre(t, "with taken ones", r, 1, 2, 3, 9, last)
		lets(t, r, last, 2)
		leavesAre(t, "with some let go", r, 1, 3, 9)
		r.Swing()
		leavesAre(t, "behind a swing", r, 1, 3, 9)
		lets(t, r, 1)
		leavesAre(t, "with one more let go", r, 3, 9)
		r.Back()
		leavesAre(t, "behind a way back", r, 1, 3, 9)
	}
}

func TestCopyGoesItsOwnWay(t *testing.T) {
	for _, blocks := range numbers {
		for _, step := range []struct {
			name string
			call func(r *room.Room)
		}{
			{"Take", func(r *room.Room) { r.Take() }},
			{"Let of a used block", func(r *room.Room) { r.Let(1) }},
			{"Let of a taken one", func(r *room.Room) { r.Let(3) }},
			{"Swing", func(r *room.Room) { r.Swing() }},
			{"Back", func(r *room.Room) { r.Back() }},
			{"TakeMany", func(r *room.Room) { r.TakeMany(5) }},
			{"LetAll", func(r *room.Room) { r.LetAll([]uint32{5, 6}) }},
			{"Swing and Takes", func(r *room.Room) { r.Swing(); r.TakeMany(3); r.Let(1) }},
			{"Back and Takes", func(r *room.Room) { r.Back(); r.TakeMany(3); r.Let(1) }},
		} {
			r, p := mixed(t, blocks)
			c := r.Copy()
			holds(t, "a copy", c, p)
			step.call(c)
			holds(t, "behind "+step.name+" of its copy", r, p)
			c = r.Copy()
			step.call(r)
			holds(t, "behind "+step.name+" of what it was copied from", c, p)
		}
	}
}

// A copy knows what the committed tree uses, too.
func TestCopyHasBothTrees(t *testing.T) {
	r, p := mixed(t, 16)
	c := r.Copy()
	c.Back()
	p.back()
	holds(t, "a copy behind Back", c, p)
	r, p = mixed(t, 16)
	c = r.Copy()
	c.Swing()
	p.swing()
	holds(t, "a copy behind Swing", c, p)
}

// R4

func TestWhatIsHandedOutIsTheCallersOwn(t *testing.T) {
	r, p := mixed(t, 100)
	for _, state := range states {
		list, other := r.List(state), r.List(state)
		for i := range cap(list) {
			list[:cap(list)][i] = 77
		}
		if !slices.Equal(other, p.list(state)) {
			t.Errorf("List(%d) shares memory with another one", state)
		}
		runs, others := r.Runs(state), r.Runs(state)
		for i := range cap(runs) {
			runs[:cap(runs)][i] = api.Run{From: 7, To: 77}
		}
		if !slices.Equal(others, p.runs(state)) {
			t.Errorf("Runs(%d) shares memory with another one", state)
		}
	}
	leaves, others := r.Leaves(), r.Leaves()
	for i := range cap(leaves) {
		leaves[:cap(leaves)][i] = api.Block{77}
	}
	if !slices.Equal(others, p.leaves()) {
		t.Error("Leaves share memory with others")
	}
	many, err := r.TakeMany(3)
	if err != api.OK {
		t.Fatal(err)
	}
	for i := range cap(many) {
		many[:cap(many)][i] = 77
	}
	p[4], p[7], p[8] = api.RoomTaken, api.RoomTaken, api.RoomTaken
	holds(t, "whose answers were written over", r, p)
}

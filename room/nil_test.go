package room_test

import (
	"math"
	"slices"
	"testing"

	"signet/api"
	"signet/room"
)

// nothing asks what a room without blocks answers.
func nothing(t *testing.T, r *room.Room) {
	t.Helper()
	if at, err := r.Take(); at != 0 || err != api.ErrNoSpace {
		t.Errorf("Take = %d, %d; want ErrNoSpace", at, err)
	}
	for _, at := range []uint32{0, 1, 2, 16, 1 << 31, math.MaxUint32} {
		if err := r.Let(at); err != api.ErrBlock {
			t.Errorf("Let(%d) = %d; want ErrBlock", at, err)
		}
		if got := r.State(at); got != api.RoomNone {
			t.Errorf("State(%d) = %d", at, got)
		}
		for _, l := range [][]uint32{{at}, {at, at}, {at, 1}} {
			if place, err := r.LetAll(l); place != 0 || err != api.ErrBlock {
				t.Errorf("LetAll(%v) = %d, %d; want ErrBlock", l, place, err)
			}
		}
	}
	r.Swing()
	r.Back()
	for _, state := range slices.Concat(states, noStates) {
		if r.Count(state) != 0 || len(r.List(state)) != 0 || len(r.Runs(state)) != 0 {
			t.Errorf("of the state %d: Count = %d, List = %v, Runs = %v", state, r.Count(state), r.List(state), r.Runs(state))
		}
		if at, n := r.Longest(state); at != 0 || n != 0 {
			t.Errorf("Longest(%d) = %d, %d", state, at, n)
		}
	}
	if r.Blocks() != 0 || len(r.Leaves()) != 0 {
		t.Errorf("Blocks = %d, Leaves = %v", r.Blocks(), r.Leaves())
	}
	for _, none := range [][]uint32{nil, {}} {
		if place, err := r.LetAll(none); place != 0 || err != api.OK {
			t.Errorf("LetAll of none = %d, %d", place, err)
		}
	}
	for _, n := range []int{-1, -2, math.MinInt} {
		if l, err := r.TakeMany(n); len(l) != 0 || err != api.ErrArg {
			t.Errorf("TakeMany(%d) = %v, %d; want ErrArg", n, l, err)
		}
	}
	for _, n := range []int{1, 16, math.MaxInt} {
		if l, err := r.TakeMany(n); len(l) != 0 || err != api.ErrNoSpace {
			t.Errorf("TakeMany(%d) = %v, %d; want ErrNoSpace", n, l, err)
		}
	}
}

// 12.5 and 12.7

func TestNoRoom(t *testing.T) {
	var r *room.Room
	nothing(t, r)
	if c := r.Copy(); c != nil {
		t.Errorf("Copy = %v", c)
	}
	// There is no room to take even nothing from.
	if l, err := r.TakeMany(0); len(l) != 0 || err != api.ErrNoSpace {
		t.Errorf("TakeMany(0) = %v, %d; want ErrNoSpace", l, err)
	}
}

// What no call gave is a room without blocks.
func TestRoomThatNoCallGave(t *testing.T) {
	r := new(room.Room)
	nothing(t, r)
	nothing(t, r.Copy())
}

package room_test

import (
	"slices"
	"testing"

	"signet/api"
	"signet/bits"
	"signet/room"
)

// The examples of chapter 12.

func TestExample1(t *testing.T) {
	r := made(t, 16, 1, 2)
	takes(t, r, 3)
	if err := r.Let(1); err != api.OK || r.State(1) != api.RoomLet {
		t.Error(err, r.State(1))
	}
	takes(t, r, 4)
	r.Swing()
	takes(t, r, 1)
	if r, place, err := room.New(16, []uint32{1, 1}); r != nil || place != 1 || err != api.ErrBlock {
		t.Error(r, place, err)
	}
	if r, place, err := room.New(15, nil); r != nil || place != 0 || err != api.ErrBlocks {
		t.Error(r, place, err)
	}
}

func TestExample2(t *testing.T) {
	m, err := bits.Of(16, 1, 9)
	if err != api.OK {
		t.Fatal(err)
	}
	if got := made(t, 16, 1, 9).Leaves(); len(got) != 1 || !slices.Equal(got, m.Leaves()) {
		t.Error(got)
	}
	m, err = bits.Of(16, 0)
	if err != api.OK {
		t.Fatal(err)
	}
	if r, err := room.Load(16, m.Leaves()); r != nil || err != api.ErrMap {
		t.Error(r, err)
	}
}

func TestExample3(t *testing.T) {
	r := made(t, 16, 1, 2, 5)
	runsAre(t, r, api.RoomFree, 6, 10, run(3, 4), run(6, 15))
	if l, err := r.TakeMany(3); err != api.OK || !slices.Equal(l, []uint32{3, 4, 6}) {
		t.Error(l, err)
	}
	if place, err := r.LetAll([]uint32{1, 1}); place != 1 || err != api.ErrBlock {
		t.Error(place, err)
	}
}

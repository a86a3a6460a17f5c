package room_test

import (
	"math"
	"testing"

	"signet/api"
	"signet/room"
)

// 12.2

func TestTakeIsTheLeastFreeBlock(t *testing.T) {
	r, p := made(t, 20, 1, 2, 5, 19), of(20, 1, 2, 5, 19)
	for _, at := range []uint32{3, 4, 6, 7, 8, 9, 10, 11, 12, 13, 14, 15, 16, 17, 18} {
		takes(t, r, at)
		p[at] = api.RoomTaken
		holds(t, "behind a Take", r, p)
	}
}

// full asks that there is nothing to take, as often as one asks, and that nothing changes.
func full(t *testing.T, what string, r *room.Room, p plain) {
	t.Helper()
	for range 3 {
		if at, err := r.Take(); at != 0 || err != api.ErrNoSpace {
			t.Errorf("%s: Take = %d, %d; want ErrNoSpace", what, at, err)
		}
	}
	holds(t, what, r, p)
}

func TestTakeUntilThereIsNone(t *testing.T) {
	for _, blocks := range numbers {
		r, p := made(t, blocks, 2, 9), of(blocks, 2, 9)
		for at := 1; at < blocks; at++ {
			if at != 2 && at != 9 {
				takes(t, r, uint32(at))
				p[at] = api.RoomTaken
			}
		}
		full(t, "with all taken", r, p)
		// What was taken can be taken again, once it is let go.
		lets(t, r, 7, 3)
		takes(t, r, 3, 7)
		full(t, "with two taken again", r, p)
		// What is used can't be, ahead of a swing.
		lets(t, r, 9)
		p[9] = api.RoomLet
		full(t, "with one let go", r, p)
		r.Swing()
		p.swing()
		takes(t, r, 9)
		p[9] = api.RoomTaken
		full(t, "behind a swing", r, p)
	}
}

func TestTakeOfAFullRoom(t *testing.T) {
	used := make([]uint32, 63)
	for i := range used {
		used[i] = uint32(i + 1)
	}
	full(t, "of used blocks alone", made(t, 64, used...), of(64, used...))
}

func TestTakeOfAFreeBlockAheadOfTaken(t *testing.T) {
	r := made(t, 16, 4)
	takes(t, r, 1, 2, 3, 5)
	lets(t, r, 2)
	takes(t, r, 2, 6)
	lets(t, r, 6, 1, 4)
	takes(t, r, 1, 6, 7)
}

func TestLet(t *testing.T) {
	r, p := made(t, 16, 1, 2, 15), of(16, 1, 2, 15)
	takes(t, r, 3, 4)
	p[3], p[4] = api.RoomTaken, api.RoomTaken
	for _, at := range []uint32{1, 4, 15, 3} {
		lets(t, r, at)
		p[at], _ = let(p[at])
		holds(t, "behind a Let", r, p)
	}
	want := of(16, 2)
	want[1], want[15] = api.RoomLet, api.RoomLet
	holds(t, "behind them all", r, want)
}

func TestLetOfWhatMayNotBe(t *testing.T) {
	for _, blocks := range numbers {
		n := uint32(blocks)
		r, p := made(t, blocks, 1, 2, 3), of(blocks, 1, 2, 3)
		takes(t, r, 4, 5)
		lets(t, r, 2, 4)
		p[2], p[5] = api.RoomLet, api.RoomTaken
		// 0, one let go already, taken and let go, free ones, and no blocks.
		for _, at := range append(outside(blocks), 0, 2, 4, 6, n-1, n, math.MaxUint32) {
			if err := r.Let(at); err != api.ErrBlock {
				t.Errorf("Let(%d) of %d blocks = %d; want ErrBlock", at, blocks, err)
			}
		}
		holds(t, "behind wrong Lets", r, p)
	}
}

// 12.3

func TestSwingAndBackOfAFreshRoom(t *testing.T) {
	for _, blocks := range numbers {
		r, p := made(t, blocks, 1, 9), of(blocks, 1, 9)
		r.Swing()
		holds(t, "behind Swing", r, p)
		r.Back()
		holds(t, "behind Swing and Back", r, p)
		r = made(t, blocks, 1, 9)
		r.Back()
		holds(t, "behind Back", r, p)
	}
}

func TestSwing(t *testing.T) {
	r := made(t, 16, 1, 2, 3)
	takes(t, r, 4, 5)
	r.Swing()
	holds(t, "behind Takes", r, of(16, 1, 2, 3, 4, 5))
	r.Swing()
	holds(t, "twice behind Takes", r, of(16, 1, 2, 3, 4, 5))
	lets(t, r, 2, 5)
	r.Swing()
	holds(t, "behind Lets", r, of(16, 1, 3, 4))
	r.Swing()
	holds(t, "twice behind Lets", r, of(16, 1, 3, 4))
	takes(t, r, 2, 5, 6)
	lets(t, r, 1, 5)
	r.Swing()
	holds(t, "behind both", r, of(16, 2, 3, 4, 6))
	// There is no way back over a swing.
	r.Back()
	holds(t, "behind Back", r, of(16, 2, 3, 4, 6))
	takes(t, r, 1, 5, 7)
}

func TestBack(t *testing.T) {
	r := made(t, 16, 1, 2, 3)
	p := of(16, 1, 2, 3)
	takes(t, r, 4, 5)
	r.Back()
	holds(t, "behind Takes", r, p)
	lets(t, r, 2, 3)
	r.Back()
	holds(t, "behind Lets", r, p)
	takes(t, r, 4, 5)
	lets(t, r, 1, 5)
	r.Back()
	holds(t, "behind both", r, p)
	r.Back()
	holds(t, "twice", r, p)
	takes(t, r, 4)
	lets(t, r, 1)
	r.Swing()
	holds(t, "behind Swing", r, of(16, 2, 3, 4))
}

// What was done behind a swing or a way back changes one of the two trees alone.
func TestTreesGoTheirOwnWays(t *testing.T) {
	r := made(t, 16, 1)
	for _, step := range []func(){r.Swing, r.Back} {
		step()
		takes(t, r, 2)
		lets(t, r, 1)
		p := of(16)
		p[1], p[2] = api.RoomLet, api.RoomTaken
		holds(t, "behind a Take and a Let", r, p)
		r.Back()
		holds(t, "behind Back", r, of(16, 1))
	}
}

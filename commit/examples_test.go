package commit_test

import (
	"testing"

	"signet/api"
	"signet/commit"
)

func TestExample(t *testing.T) {
	for blocks, want := range map[int]int{16: 1, 1024: 1, 1025: 3, 8192: 11} {
		if n, err := commit.Map(blocks); n != want || err != api.OK {
			t.Errorf("Map(%d) = %d, %d; want %d", blocks, n, err, want)
		}
	}
	k := made(t, 16, 0, scattered)
	k.make(file, 1)
	k.fill(2, 1)
	k.commit()
	ops, events := k.d.Ops(), k.d.Events()
	if err := k.s.Commit(); err != api.OK || k.d.Ops() != ops || k.d.Events() != events {
		t.Errorf("Commit at once behind another one = %d", err)
	}
}

// The third example of the whole: a disk that is nearly full.
func TestNearlyFull(t *testing.T) {
	k := made(t, 16, 0, scattered)
	k.make(file, 1)
	k.size(1, 64)
	k.set(1, 0, api.Block{2, 0, 0, 0, 1, 0, 0, 0, 'f'})
	k.size(2, 1101)
	for _, at := range []int{0, 300, 700, 1100} {
		var b api.Block
		b[at%256] = 'a'
		k.set(2, at/256, b)
	}
	k.news(11)
	k.commit()
	if used := k.s.Root().Used; used != 11 {
		t.Errorf("%d blocks are used; want 11", used)
	}
	k.set(2, 0, api.Block{'x'})
	if n, err := k.s.New(); n != 6 || err != api.OK {
		t.Errorf("New = %d, %d; want 6", n, err)
	}
	if err := k.s.Fits(); err != api.ErrNoSpace {
		t.Errorf("Fits = %d; want ErrNoSpace", err)
	}
}

// The errors' numbers and the limits are those of the chapters.
func TestNumbers(t *testing.T) {
	if api.ErrArg != 1 || api.ErrTampered != 2 || api.ErrNoSpace != 3 || api.ErrCut != 4 || api.ErrBack != 60 {
		t.Error("an error has another number")
	}
	if api.MinBlocks != 16 || api.MaxBlocks != 8192 || api.Fan != 4 {
		t.Error("a limit has another number")
	}
}

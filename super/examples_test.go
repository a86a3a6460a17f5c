package super_test

import (
	"slices"
	"testing"

	"signet/api"
	"signet/super"
)

func TestExample(t *testing.T) {
	x := api.Super{Blocks: 64, Counter: 1, Table: with(0, 2, sum(1)), Inodes: 1, Map: with(0, 3, sum(2)), Used: 4}
	want := append([]byte("signet01"), 64, 0, 0, 0, 0, 0, 0, 0, 1, 0, 0, 0, 0, 0, 0, 0, 0, 0, 0, 0, 1, 0, 0, 0)
	if b, err := super.Encode(x); !slices.Equal(b[:32], want) || err != api.OK {
		t.Errorf("Encode = %v, %d; it begins with %v", b, err, want)
	}
	for _, c := range [][2]int{{1024, 0}, {1025, 1}, {8192, 2}} {
		if height, err := super.MapHeight(c[0]); height != c[1] || err != api.OK {
			t.Errorf("MapHeight(%d) = %d, %d; want %d", c[0], height, err, c[1])
		}
	}
	if leaves, err := super.MapLeaves(8192); leaves != 8 || err != api.OK {
		t.Errorf("MapLeaves(8192) = %d, %d; want 8", leaves, err)
	}
	if leaves, err := super.MapLeaves(15); leaves != 0 || err != api.ErrSuper {
		t.Errorf("MapLeaves(15) = %d, %d; want ErrSuper", leaves, err)
	}
}

func TestNumbers(t *testing.T) {
	if api.ErrSuper != 200 || api.MinBlocks != 16 || api.MaxBlocks != 8192 || api.MaxInodes != 4096 || api.BlockBytes != 256 {
		t.Error("an error's number or a limit is another one")
	}
}

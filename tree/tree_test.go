package tree_test

import (
	"math"
	"slices"
	"testing"

	"signet/api"
	"signet/tree"
)

// capacities is how many leaves trees of the heights 0 to 6 have.
var capacities = []int{1, 4, 16, 64, 256, 1024, 4096}

// noHeights is numbers that are no heights.
var noHeights = []int{-1, 7, -2, 8, 31, 32, 63, 64, -64, 256, 1 << 32, math.MaxInt, math.MinInt}

// 9.1

func TestCapacity(t *testing.T) {
	for height, want := range capacities {
		if got, err := tree.Capacity(height); got != want || err != api.OK {
			t.Errorf("Capacity(%d) = %d, %d; want %d", height, got, err, want)
		}
	}
	for _, height := range noHeights {
		if got, err := tree.Capacity(height); got != 0 || err != api.ErrArg {
			t.Errorf("Capacity(%d) = %d, %d; want ErrArg", height, got, err)
		}
	}
}

func TestHeight(t *testing.T) {
	for leaves := range 4097 {
		want := 0
		for capacities[want] < leaves {
			want++
		}
		if got, err := tree.Height(leaves); got != want || err != api.OK {
			t.Errorf("Height(%d) = %d, %d; want %d", leaves, got, err, want)
		}
	}
}

func TestHeightAtItsEdges(t *testing.T) {
	for _, c := range [][2]int{{0, 0}, {1, 0}, {2, 1}, {4, 1}, {5, 2}, {16, 2}, {17, 3}, {64, 3}, {65, 4}, {256, 4}, {257, 5}, {1024, 5}, {1025, 6}, {4096, 6}} {
		if got, err := tree.Height(c[0]); got != c[1] || err != api.OK {
			t.Errorf("Height(%d) = %d, %d; want %d", c[0], got, err, c[1])
		}
	}
	for _, leaves := range []int{-1, 4097, -2, -4096, 4098, 16384, 16385, 1 << 32, math.MaxInt, math.MinInt} {
		if got, err := tree.Height(leaves); got != 0 || err != api.ErrArg {
			t.Errorf("Height(%d) = %d, %d; want ErrArg", leaves, got, err)
		}
	}
}

// The places of a way are the digits of the leaf's place to the base four.
func TestWay(t *testing.T) {
	for height, many := range capacities {
		for place := range many {
			way, err := tree.Way(height, place)
			led := 0
			for _, step := range way {
				if step < 0 || step > 3 {
					t.Errorf("Way(%d, %d) = %v", height, place, way)
				}
				led = 4*led + step
			}
			if len(way) != height || led != place || err != api.OK {
				t.Errorf("Way(%d, %d) = %v, %d", height, place, way, err)
			}
		}
	}
}

func TestWayOfKnownPlaces(t *testing.T) {
	for _, c := range []struct {
		height, place int
		want          []int
	}{
		{0, 0, nil}, {1, 0, []int{0}}, {1, 3, []int{3}}, {2, 0, []int{0, 0}}, {2, 6, []int{1, 2}}, {2, 9, []int{2, 1}}, {2, 15, []int{3, 3}},
		{3, 6, []int{0, 1, 2}}, {3, 27, []int{1, 2, 3}}, {6, 0, []int{0, 0, 0, 0, 0, 0}}, {6, 1, []int{0, 0, 0, 0, 0, 1}}, {6, 1024, []int{1, 0, 0, 0, 0, 0}},
		{6, 1251, []int{1, 0, 3, 2, 0, 3}}, {6, 4095, []int{3, 3, 3, 3, 3, 3}},
	} {
		if got, err := tree.Way(c.height, c.place); !slices.Equal(got, c.want) || err != api.OK {
			t.Errorf("Way(%d, %d) = %v, %d; want %v", c.height, c.place, got, err, c.want)
		}
	}
}

func TestWayOfWrongArguments(t *testing.T) {
	for height, many := range capacities {
		for _, place := range []int{-1, many, -2, many + 1, -many, 4 * many, 4096, 1 << 32, math.MaxInt, math.MinInt} {
			if got, err := tree.Way(height, place); len(got) != 0 || err != api.ErrPlace {
				t.Errorf("Way(%d, %d) = %v, %d; want ErrPlace", height, place, got, err)
			}
		}
	}
	for _, height := range noHeights {
		for _, place := range []int{0, 1, -1, 4096, math.MaxInt, math.MinInt} {
			if got, err := tree.Way(height, place); len(got) != 0 || err != api.ErrArg {
				t.Errorf("Way(%d, %d) = %v, %d; want ErrArg", height, place, got, err)
			}
		}
	}
}

// R4
func TestWayIsNewMemory(t *testing.T) {
	first, _ := tree.Way(3, 27)
	second, _ := tree.Way(3, 27)
	spare := first[:cap(first)]
	for i := range spare {
		spare[i] = 9
	}
	third, _ := tree.Way(3, 27)
	if want := []int{1, 2, 3}; !slices.Equal(second, want) || !slices.Equal(third, want) {
		t.Errorf("an answer hangs on another one: %v, %v", second, third)
	}
}

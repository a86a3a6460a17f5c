package bits_test

import (
	"math"
	"testing"

	"signet/api"
	"signet/bits"
)

// 11.1

func TestNewIsZeros(t *testing.T) {
	for _, size := range sizes {
		m, err := bits.New(size)
		if m == nil || err != api.OK {
			t.Fatalf("New(%d) = %v, %d", size, m, err)
		}
		holds(t, "New", m, make(plain, size))
	}
}

func TestNewOfWrongSizes(t *testing.T) {
	for _, size := range wrongSizes {
		if m, err := bits.New(size); m != nil || err != api.ErrArg {
			t.Errorf("New(%d) = %v, %d; want ErrArg", size, m, err)
		}
	}
}

func TestOf(t *testing.T) {
	for _, size := range sizes {
		last := size - 1
		for _, places := range [][]int{nil, {}, {0}, {last}, {0, last}, {last, 0}, {0, 0}, {last, last, last}, {last, size / 2, 0, size / 2}} {
			m, err := bits.Of(size, places...)
			if m == nil || err != api.OK {
				t.Fatalf("Of(%d, %v) = %v, %d", size, places, m, err)
			}
			holds(t, "Of", m, of(size, places...))
		}
		if m, err := bits.Of(size); m == nil || err != api.OK || m.Count() != 0 {
			t.Errorf("Of(%d) = %v, %d", size, m, err)
		}
	}
}

func TestOfWrongSizes(t *testing.T) {
	for _, size := range wrongSizes {
		for _, places := range [][]int{nil, {0}, {-1}, {size}, {math.MinInt}} { // New's error is named first
			if m, err := bits.Of(size, places...); m != nil || err != api.ErrArg {
				t.Errorf("Of(%d, %v) = %v, %d; want ErrArg", size, places, m, err)
			}
		}
	}
}

func TestOfPlacesThatAreNotThere(t *testing.T) {
	for _, size := range sizes {
		for _, place := range outside(size) {
			if place >= 0 && place < size {
				continue
			}
			for _, places := range [][]int{{place}, {0, place}, {place, 0}, {0, place, size - 1}, {place, place}} {
				if m, err := bits.Of(size, places...); m != nil || err != api.ErrPlace {
					t.Errorf("Of(%d, %v) = %v, %d; want ErrPlace", size, places, m, err)
				}
			}
		}
	}
}

func TestOfLeavesThePlacesAsTheyWere(t *testing.T) {
	room := []int{5, 3, 5, 900, 901}
	m := made(t, 1000, room[:3]...)
	for i, want := range []int{5, 3, 5, 900, 901} {
		if room[i] != want {
			t.Errorf("place %d of what was handed in is %d", i, room[i])
		}
	}
	room[0], room[1] = 7, 8
	holds(t, "behind a change of what was handed in", m, of(1000, 3, 5))
}

func TestSetAndClearTellWhetherItWasOtherwise(t *testing.T) {
	for _, size := range sizes {
		for _, place := range []int{0, size / 2, size - 1} {
			m := made(t, size)
			if m.Clear(place) {
				t.Errorf("Clear(%d) of zeros", place)
			}
			holds(t, "Clear of zeros", m, of(size))
			if !m.Set(place) {
				t.Errorf("Set(%d) is false the first time", place)
			}
			holds(t, "Set", m, of(size, place))
			if m.Set(place) {
				t.Errorf("Set(%d) is true the second time", place)
			}
			holds(t, "Set again", m, of(size, place))
			if !m.Clear(place) {
				t.Errorf("Clear(%d) is false the first time", place)
			}
			holds(t, "Clear", m, of(size))
			if m.Clear(place) {
				t.Errorf("Clear(%d) is true the second time", place)
			}
			holds(t, "Clear again", m, of(size))
		}
	}
}

// Each place's bit is its own.
func TestSetAndClearOfEachPlace(t *testing.T) {
	for _, size := range []int{1, 9, 65, 1025, 1100} {
		for place := range size {
			m := made(t, size)
			m.Set(place)
			is(t, "Set", m, of(size, place))
			if err := m.Fill(0, size); err != api.OK {
				t.Fatal(err)
			}
			m.Clear(place)
			p := full(size)
			p[place] = false
			is(t, "Clear", m, p)
		}
	}
}

func TestPlacesThatAreNotThere(t *testing.T) {
	for _, size := range sizes {
		for _, p := range []plain{of(size), full(size)} {
			m := made(t, size, p.ones()...)
			for _, place := range outside(size) {
				if place >= 0 && place < size {
					continue
				}
				if m.Has(place) || m.Set(place) || m.Clear(place) {
					t.Errorf("Has, Set or Clear(%d) of a map of %d", place, size)
				}
			}
			holds(t, "behind places that are not there", m, p)
		}
	}
}

func TestFill(t *testing.T) {
	for _, size := range sizes {
		ends := []int{0, 1, size / 3, size / 2, size - 1, size}
		for _, from := range ends {
			for _, to := range ends {
				if from > to {
					continue
				}
				m, p := made(t, size, size/2), of(size, size/2)
				if err := m.Fill(from, to); err != api.OK {
					t.Errorf("Fill(%d, %d) of a map of %d = %d", from, to, size, err)
				}
				for place := from; place < to; place++ {
					p[place] = true
				}
				holds(t, "Fill", m, p)
			}
		}
	}
}

func TestFillOfEachStretch(t *testing.T) {
	const size = 140
	for from := range size + 1 {
		for to := from; to <= size; to++ {
			m := made(t, size)
			if err := m.Fill(from, to); err != api.OK {
				t.Fatal(err)
			}
			if m.Count() != to-from || from < to && (m.Next(0) != from || m.Free(from) != end(to, size)) {
				t.Fatalf("Fill(%d, %d): %v", from, to, m.Runs())
			}
		}
	}
}

// end is a place, or -1, if it is the size.
func end(place, size int) int {
	if place == size {
		return -1
	}
	return place
}

func TestFillOfPlacesThatAreNotThere(t *testing.T) {
	for _, size := range sizes {
		m, p := made(t, size, size/2), of(size, size/2)
		for _, ends := range [][2]int{
			{-1, 0}, {-1, size}, {-1, -1}, {-2, -1}, {1, 0}, {size, size - 1}, {0, size + 1}, {size, size + 1}, {size + 1, size + 1}, {size + 1, size},
			{-1, size + 1}, {0, -1}, {math.MinInt, 0}, {math.MinInt, math.MaxInt}, {0, math.MaxInt}, {math.MaxInt, math.MaxInt}, {math.MaxInt, math.MinInt}, {0, 1 << 32},
		} {
			if err := m.Fill(ends[0], ends[1]); err != api.ErrPlace {
				t.Errorf("Fill(%d, %d) of a map of %d = %d; want ErrPlace", ends[0], ends[1], size, err)
			}
			holds(t, "behind a Fill that told an error", m, p)
		}
	}
}

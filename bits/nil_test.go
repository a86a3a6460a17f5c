package bits_test

import (
	"math"
	"testing"

	"signet/api"
	"signet/bits"
)

// 11.5

func TestNoMap(t *testing.T) {
	var m *bits.Map
	if m.Size() != 0 || m.Count() != 0 {
		t.Errorf("Size = %d, Count = %d", m.Size(), m.Count())
	}
	for _, place := range []int{math.MinInt, -1, 0, 1, 64, 8191, 8192, math.MaxInt} {
		if m.Has(place) || m.Set(place) || m.Clear(place) {
			t.Errorf("Has, Set or Clear(%d) is true", place)
		}
		if m.Free(place) != -1 || m.Next(place) != -1 {
			t.Errorf("Free(%d) = %d, Next = %d; want -1", place, m.Free(place), m.Next(place))
		}
		for _, to := range []int{math.MinInt, -1, 0, 1, math.MaxInt} {
			if err := m.Fill(place, to); err != api.ErrPlace {
				t.Errorf("Fill(%d, %d) = %d; want ErrPlace", place, to, err)
			}
		}
	}
	if got := all(m); len(got) != 0 {
		t.Errorf("All = %v", got)
	}
	m.All()(nil)
	if len(m.Runs()) != 0 || len(m.Leaves()) != 0 || m.Clone() != nil {
		t.Errorf("Runs = %v, Leaves = %v, Clone = %v", m.Runs(), m.Leaves(), m.Clone())
	}
}

func TestPairsOfNoMap(t *testing.T) {
	var m *bits.Map
	for _, c := range pairings {
		if got, err := c.call(m, nil); got != nil || err != api.ErrArg {
			t.Errorf("%s of nil and nil = %v, %d; want ErrArg", c.name, got, err)
		}
		for _, size := range sizes {
			o := made(t, size, 0)
			if got, err := c.call(m, o); got != nil || err != api.ErrSize {
				t.Errorf("%s of nil and a map of %d = %v, %d; want ErrSize", c.name, size, got, err)
			}
			holds(t, "behind nil", o, of(size, 0))
		}
	}
}

// What no call gave is a map without a place.
func TestMapThatNoCallGave(t *testing.T) {
	var none *bits.Map
	m := new(bits.Map)
	if m.Size() != 0 || m.Count() != 0 || m.Has(0) || m.Set(0) || m.Clear(0) || m.Free(0) != -1 || m.Next(0) != -1 || len(all(m)) != 0 || len(m.Runs()) != 0 || len(m.Leaves()) != 0 {
		t.Error("a map without a place has something")
	}
	if m.Fill(0, 1) != api.ErrPlace || !m.Same(m.Clone()) || m.Same(none) || none.Same(m) {
		t.Error("Fill or Same of a map without a place")
	}
	for _, c := range pairings {
		for _, pair := range [][2]*bits.Map{{m, none}, {none, m}, {m, made(t, 1)}, {made(t, 1), m}} {
			if got, err := c.call(pair[0], pair[1]); got != nil || err != api.ErrSize {
				t.Errorf("%s = %v, %d; want ErrSize", c.name, got, err)
			}
		}
	}
}

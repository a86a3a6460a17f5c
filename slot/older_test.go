package slot_test

import (
	"math"
	"slices"
	"testing"

	"signet/api"
)

// 6.6

func TestAt(t *testing.T) {
	for _, n := range []uint64{0, 1, 2, 7, 300} {
		r, _ := written(t, n)
		for c := uint64(1); c <= n; c++ {
			if s, is := r.At(c); s != one(c) || !is {
				t.Errorf("At(%d) of %d = %v, %v", c, n, s, is)
			}
		}
		for _, c := range []uint64{0, n + 1, n + 2, 1 << 32, 1<<32 + 1, 1 << 63, 1<<63 + 1, math.MaxUint64 - 1, math.MaxUint64} {
			if s, is := r.At(c); s != (api.Slot{}) || is {
				t.Errorf("At(%d) of %d = %v, %v", c, n, s, is)
			}
		}
	}
}

func TestBetween(t *testing.T) {
	edges := []uint64{0, 1, 2, 3, 4, 5, 6, 7, 1 << 32, 1 << 63, math.MaxUint64 - 1, math.MaxUint64}
	for n := range uint64(6) {
		r, _ := written(t, n)
		for _, from := range edges {
			for _, to := range edges {
				var want []api.Slot
				for _, s := range ones(1, n) {
					if s.Counter >= from && s.Counter <= to {
						want = append(want, s)
					}
				}
				if l := r.Between(from, to); !slices.Equal(l, want) {
					t.Errorf("Between(%d, %d) of %d = %v, want %v", from, to, n, l, want)
				}
			}
		}
	}
}

func TestAge(t *testing.T) {
	for _, n := range []uint64{0, 1, 2, 7, 300} {
		r, _ := written(t, n)
		for c := uint64(1); c <= n; c++ {
			if age, is := r.Age(one(c)); age != int(n-c) || !is {
				t.Errorf("Age of counter %d of %d = %d, %v", c, n, age, is)
			}
		}
		for _, s := range []api.Slot{{}, one(0), one(n + 1), one(math.MaxUint64), {Counter: 1}, {Counter: 1, Root: api.Ref{At: one(1).Root.At}}, {Counter: n, Root: one(n + 1).Root}, {Root: one(1).Root}} {
			if age, is := r.Age(s); age != 0 || is {
				t.Errorf("Age(%v) of %d = %d, %v", s, n, age, is)
			}
		}
	}
}

// A slot whose write did not take place has no age, and no place among the others.
func TestOlderSlotsBehindACut(t *testing.T) {
	r, d := written(t, 2)
	d.Cut(api.Cut{Event: 2})
	writes(t, r, one(3), api.ErrCut)
	d.Revive()
	if s, is := r.At(3); s != (api.Slot{}) || is {
		t.Errorf("At(3) = %v, %v", s, is)
	}
	if n, is := r.Age(one(3)); n != 0 || is {
		t.Errorf("Age = %d, %v", n, is)
	}
	other := api.Slot{Counter: 3, Root: api.Ref{At: 77}}
	d.Cut(api.Cut{Event: 3, After: true})
	writes(t, r, other, api.ErrCut)
	if s, is := r.At(3); s != other || !is {
		t.Errorf("At(3) = %v, %v", s, is)
	}
	if l := r.Between(2, 3); !slices.Equal(l, []api.Slot{one(2), other}) {
		t.Errorf("Between(2, 3) = %v", l)
	}
	if n, is := r.Age(one(2)); n != 1 || !is {
		t.Errorf("Age = %d, %v", n, is)
	}
	if n, is := r.Age(one(3)); n != 0 || is {
		t.Errorf("Age of what did not take place = %d, %v", n, is)
	}
}

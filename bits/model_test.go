package bits_test

import (
	"testing"

	"signet/api"
	"signet/bits"
)

// 11.6

func TestFromLeavesOfLeavesIsTheMap(t *testing.T) {
	r := chance(2)
	for _, size := range sizes {
		for range 6 {
			m, p := byChance(t, r, size)
			again, err := bits.FromLeaves(size, m.Leaves())
			if err != api.OK || !again.Same(m) {
				t.Fatalf("FromLeaves of Leaves of %v in %d = %v, %d", p.ones(), size, again, err)
			}
			again.Set(0)
			again.Clear(size - 1)
			is(t, "the map whose leaves were read", m, p)
		}
	}
}

func TestCountIsHowManyAllTells(t *testing.T) {
	r := chance(3)
	for _, size := range sizes {
		for range 6 {
			m, p := byChance(t, r, size)
			if m.Count() != len(all(m)) || m.Count() != len(p.ones()) {
				t.Errorf("Count = %d, All tells %d, of %d", m.Count(), len(all(m)), len(p.ones()))
			}
			inRuns := 0
			for _, run := range m.Runs() {
				inRuns += run.To - run.From + 1
			}
			if inRuns != m.Count() {
				t.Errorf("Count = %d, the runs have %d", m.Count(), inRuns)
			}
		}
	}
}

func TestLessAndCrossShareNothingAndAreTheMapTogether(t *testing.T) {
	r := chance(4)
	for _, size := range sizes {
		for range 6 {
			m, _ := byChance(t, r, size)
			o, _ := byChance(t, r, size)
			less, _ := m.Less(o)
			cross, _ := m.Cross(o)
			shared, err := less.Cross(cross)
			if err != api.OK || shared.Count() != 0 {
				t.Errorf("Less and Cross of maps of %d share %v", size, all(shared))
			}
			if both, err := less.Either(cross); err != api.OK || !both.Same(m) {
				t.Errorf("Less and Cross of maps of %d are not the map together", size)
			}
		}
	}
}

// A run of calls by chance, each held against the plain map.
func TestRunsOfCalls(t *testing.T) {
	r := chance(5)
	for _, size := range []int{1, 9, 64, 65, 200, 1024, 1030, 3000} {
		m, p := byChance(t, r, size)
		for step := range 600 {
			place := r.IntN(size+4) - 2
			within := place >= 0 && place < size
			switch r.IntN(6) {
			case 0, 1:
				if got, want := m.Set(place), within && !p[place]; got != want {
					t.Fatalf("Set(%d) = %v", place, got)
				}
				if within {
					p[place] = true
				}
			case 2, 3:
				if got, want := m.Clear(place), within && p[place]; got != want {
					t.Fatalf("Clear(%d) = %v", place, got)
				}
				if within {
					p[place] = false
				}
			case 4:
				if m.Free(place) != p.seek(place, false) || m.Next(place) != p.seek(place, true) {
					t.Fatalf("from %d on: Free = %d, Next = %d", place, m.Free(place), m.Next(place))
				}
			case 5:
				to := place + r.IntN(9) - 1
				right := place >= 0 && place <= to && to <= size
				if err := m.Fill(place, to); (err == api.OK) != right {
					t.Fatalf("Fill(%d, %d) = %d", place, to, err)
				}
				for at := place; right && at < to; at++ {
					p[at] = true
				}
			}
			if step%50 == 0 {
				holds(t, "in a run of calls", m, p)
			}
		}
		holds(t, "behind a run of calls", m, p)
	}
}

// The pairings by chance, and what they make put together again.
func TestPairsByChance(t *testing.T) {
	r := chance(6)
	for _, size := range []int{1, 16, 65, 1024, 1025, 2500} {
		m, p := byChance(t, r, size)
		for range 30 {
			o, q := byChance(t, r, size)
			c := pairings[r.IntN(len(pairings))]
			x, err := c.call(m, o)
			if err != api.OK {
				t.Fatal(err)
			}
			is(t, "the first", m, p)
			is(t, "the second", o, q)
			m, p = x, c.plainly(p, q)
			if p.seek(0, true) < 0 {
				m, p = byChance(t, r, size)
			}
			holds(t, c.name, m, p)
		}
	}
}

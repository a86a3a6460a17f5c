package bits_test

import (
	"math"
	"slices"
	"testing"

	"signet/api"
)

// 11.2

// patterns is plain maps of a size: of zeros, of ones, with one of each alone at the ends and in the midst, and turn by turn.
func patterns(size int) []plain {
	l := []plain{of(size), full(size)}
	for _, place := range []int{0, size / 2, size - 1} {
		p := full(size)
		p[place] = false
		l = append(l, of(size, place), p)
	}
	turns := of(size)
	for place := 0; place < size; place += 2 {
		turns[place] = true
	}
	return append(l, turns)
}

func TestCount(t *testing.T) {
	for _, size := range sizes {
		for _, p := range patterns(size) {
			if got := made(t, size, p.ones()...).Count(); got != len(p.ones()) {
				t.Errorf("Count of %v in %d = %d", p.ones(), size, got)
			}
		}
	}
}

func TestFreeAndNext(t *testing.T) {
	for _, size := range sizes {
		for _, p := range patterns(size) {
			m := made(t, size, p.ones()...)
			from := []int{math.MinInt, -1000, -64, -1, 0, 1, 62, 63, 64, 65, 1023, 1024, 1025, size/2 - 1, size / 2, size/2 + 1, size - 2, size - 1, size, size + 1, size + 63, size + 64, api.MaxBlocks, 1 << 32, math.MaxInt}
			for _, from := range from {
				if got, want := m.Free(from), p.seek(from, false); got != want {
					t.Errorf("Free(%d) of a map of %d with ones at %v = %d; want %d", from, size, p.ones(), got, want)
				}
				if got, want := m.Next(from), p.seek(from, true); got != want {
					t.Errorf("Next(%d) of a map of %d with ones at %v = %d; want %d", from, size, p.ones(), got, want)
				}
			}
		}
	}
}

func TestFreeAndNextFromEachPlace(t *testing.T) {
	r := chance(1)
	for _, size := range []int{1, 64, 70, 1024, 1100, 2048} {
		for range 5 {
			m, p := byChance(t, r, size)
			for from := -2; from < size+2; from++ {
				if m.Free(from) != p.seek(from, false) || m.Next(from) != p.seek(from, true) {
					t.Fatalf("of %v in %d from %d on: Free = %d, Next = %d", p.ones(), size, from, m.Free(from), m.Next(from))
				}
			}
		}
	}
}

func TestFreeAndNextChangeNothing(t *testing.T) {
	m := made(t, 100, 3, 4, 99)
	for from := -1; from <= 101; from++ {
		m.Free(from)
		m.Next(from)
	}
	holds(t, "behind Free and Next", m, of(100, 3, 4, 99))
}

func TestAll(t *testing.T) {
	for _, size := range sizes {
		for _, p := range patterns(size) {
			if got := all(made(t, size, p.ones()...)); !slices.Equal(got, p.ones()) {
				t.Errorf("All of %v in %d = %v", p.ones(), size, got)
			}
		}
	}
}

func TestAllBrokenOff(t *testing.T) {
	m := made(t, 2000, 5, 64, 1024, 1999)
	for many := 1; many <= 4; many++ {
		var got []int
		for place := range m.All() {
			got = append(got, place)
			if len(got) == many {
				break
			}
		}
		if want := []int{5, 64, 1024, 1999}[:many]; !slices.Equal(got, want) {
			t.Errorf("broken off behind %d: %v; want %v", many, got, want)
		}
	}
}

// The iterator goes over what is there when it is ranged over, not what was there when All was called.
func TestAllIsRangedOverAgainBehindAChange(t *testing.T) {
	m := made(t, 1500, 7)
	it := m.All()
	ranged := func(want ...int) {
		t.Helper()
		var got []int
		for place := range it {
			got = append(got, place)
		}
		if !slices.Equal(got, want) {
			t.Errorf("All = %v; want %v", got, want)
		}
	}
	ranged(7)
	ranged(7)
	m.Set(0)
	m.Set(1499)
	ranged(0, 7, 1499)
	m.Clear(7)
	ranged(0, 1499)
	m.Clear(0)
	m.Clear(1499)
	ranged()
	if err := m.Fill(1023, 1026); err != api.OK {
		t.Fatal(err)
	}
	ranged(1023, 1024, 1025)
}

// What is changed while it is ranged over: what was told may be taken away, and no place is told twice.
func TestAllEndsWhateverIsChangedMeanwhile(t *testing.T) {
	m := made(t, 3000)
	if err := m.Fill(0, 3000); err != api.OK {
		t.Fatal(err)
	}
	want := 0
	for place := range m.All() {
		if place != want {
			t.Fatalf("told %d; want %d", place, want)
		}
		m.Clear(place)
		want++
	}
	if want != 3000 || m.Count() != 0 {
		t.Errorf("%d were told, %d are left", want, m.Count())
	}
	m.Set(0)
	last := -1
	for place := range m.All() {
		if place <= last {
			t.Fatalf("told %d behind %d", place, last)
		}
		last = place
		m.Set(place + 1)
	}
}

func TestAllTwiceAtOnce(t *testing.T) {
	m := made(t, 70, 1, 69)
	var got []int
	for a := range m.All() {
		for b := range m.All() {
			got = append(got, a, b)
		}
	}
	if !slices.Equal(got, []int{1, 1, 1, 69, 69, 1, 69, 69}) {
		t.Error(got)
	}
}

func TestAllOfNoFunction(t *testing.T) {
	m := made(t, 70, 1, 69)
	m.All()(nil)
	made(t, 70).All()(nil)
	holds(t, "behind no function", m, of(70, 1, 69))
}

// stretches is runs, from the first and the last place of each.
func stretches(ends ...int) []api.Run {
	var l []api.Run
	for i := 0; i < len(ends); i += 2 {
		l = append(l, api.Run{From: ends[i], To: ends[i+1]})
	}
	return l
}

func TestRuns(t *testing.T) {
	for _, c := range []struct {
		size int
		runs []api.Run
	}{
		{1, nil}, {1, stretches(0, 0)},
		{16, stretches(0, 0)}, {16, stretches(15, 15)}, {16, stretches(0, 0, 15, 15)}, {16, stretches(0, 15)}, {16, stretches(3, 3, 5, 5)},
		{16, stretches(7, 8)}, {16, stretches(0, 7)}, {16, stretches(8, 15)},
		{100, stretches(63, 64)}, {100, stretches(62, 63, 65, 99)}, {128, stretches(0, 63)}, {128, stretches(64, 127)}, {65, stretches(64, 64)},
		{2048, stretches(1023, 1024)}, {2048, stretches(0, 1023)}, {2048, stretches(1024, 2047)}, {2048, stretches(0, 2047)}, {2048, stretches(1000, 1022, 1024, 1030)},
		{1025, stretches(1024, 1024)}, {1025, stretches(0, 1024)},
		{api.MaxBlocks, stretches(0, api.MaxBlocks-1)}, {api.MaxBlocks, stretches(0, 0, 2, 8000, 8191, 8191)}, {api.MaxBlocks, nil},
	} {
		m := made(t, c.size)
		for _, run := range c.runs {
			if err := m.Fill(run.From, run.To+1); err != api.OK {
				t.Fatal(err)
			}
		}
		if got := m.Runs(); !slices.Equal(got, c.runs) {
			t.Errorf("Runs of a map of %d = %v; want %v", c.size, got, c.runs)
		}
	}
}

func TestRunsAreTheCallersOwn(t *testing.T) {
	m := made(t, 100, 1, 2, 5, 7, 99)
	first, second := m.Runs(), m.Runs()
	spoil := first[:cap(first)]
	for i := range spoil {
		spoil[i] = api.Run{From: -7, To: -7}
	}
	want := stretches(1, 2, 5, 5, 7, 7, 99, 99)
	if !slices.Equal(second, want) || !slices.Equal(m.Runs(), want) {
		t.Errorf("%v, and asked anew %v", second, m.Runs())
	}
	holds(t, "behind a change of what was handed out", m, of(100, 1, 2, 5, 7, 99))
}

package bits_test

import (
	"math"
	"math/rand/v2"
	"slices"
	"testing"

	"signet/api"
	"signet/bits"
)

// sizes are those that end within a byte, at its end, within a word, within a leaf, at its end, and the greatest.
var sizes = []int{1, 2, 7, 8, 9, 15, 16, 17, 63, 64, 65, 127, 128, 129, 1000, 1023, 1024, 1025, 1087, 1088, 1089, 2047, 2048, 2049, 5000, 8191, api.MaxBlocks}

// wrongSizes are sizes that no map has.
var wrongSizes = []int{-1, 0, api.MaxBlocks + 1, -2, 2 * api.MaxBlocks, -api.MaxBlocks, 1 << 32, 1<<32 + 1, math.MinInt, math.MinInt + 1, math.MaxInt}

// outside is places that a map of a size does not have.
func outside(size int) []int {
	return []int{-1, size, -2, size + 1, -size, 2 * size, size + 64, -64, api.MaxBlocks, api.MaxBlocks + size, 1 << 32, 1<<32 + 1, math.MinInt, math.MaxInt}
}

// plain is a map in the plainest way: one bool for each place.
type plain []bool

func (p plain) ones() []int {
	var l []int
	for place, is := range p {
		if is {
			l = append(l, place)
		}
	}
	return l
}

// seek is the least place from one on that is so, or -1.
func (p plain) seek(from int, is bool) int {
	for place, was := range p {
		if place >= from && was == is {
			return place
		}
	}
	return -1
}

func (p plain) runs() []api.Run {
	var l []api.Run
	for place, is := range p {
		if !is {
			continue
		}
		if place > 0 && p[place-1] {
			l[len(l)-1].To = place
		} else {
			l = append(l, api.Run{From: place, To: place})
		}
	}
	return l
}

// leaves is the leaves, byte by byte as the document lays them.
func (p plain) leaves() []api.Block {
	l := make([]api.Block, (len(p)+1023)/1024)
	for k := range l {
		copy(l[k][:], "bits")
		l[k][4] = byte(k)
	}
	for _, place := range p.ones() {
		l[place>>10][128+((place&1023)>>3)] |= 1 << (place & 7)
	}
	return l
}

// made is a map of a size with ones in places.
func made(t *testing.T, size int, places ...int) *bits.Map {
	t.Helper()
	m, err := bits.Of(size, places...)
	if m == nil || err != api.OK {
		t.Fatalf("Of(%d, %v) = %v, %d", size, places, m, err)
	}
	return m
}

// of is a plain map of a size with ones in places.
func of(size int, places ...int) plain {
	p := make(plain, size)
	for _, place := range places {
		p[place] = true
	}
	return p
}

// all is what All tells.
func all(m *bits.Map) []int {
	var l []int
	for place := range m.All() {
		l = append(l, place)
	}
	return l
}

// is asks a map for each place whether it has what the plain one has, and no place beside.
func is(t *testing.T, what string, m *bits.Map, p plain) {
	t.Helper()
	if m.Size() != len(p) {
		t.Fatalf("%s: Size = %d; want %d", what, m.Size(), len(p))
	}
	for place, want := range p {
		if m.Has(place) != want {
			t.Fatalf("%s: Has(%d) = %v of a map of %d", what, place, !want, len(p))
		}
	}
	for _, place := range outside(len(p)) {
		if m.Has(place) {
			t.Fatalf("%s: Has(%d) of a map of %d", what, place, len(p))
		}
	}
}

// holds asks a map for all that can be asked of it.
func holds(t *testing.T, what string, m *bits.Map, p plain) {
	t.Helper()
	is(t, what, m, p)
	ones := p.ones()
	if m.Count() != len(ones) {
		t.Errorf("%s: Count = %d; want %d", what, m.Count(), len(ones))
	}
	if got := all(m); !slices.Equal(got, ones) {
		t.Errorf("%s: All = %v; want %v", what, got, ones)
	}
	if got, want := m.Runs(), p.runs(); !slices.Equal(got, want) {
		t.Errorf("%s: Runs = %v; want %v", what, got, want)
	}
	if got, want := m.Leaves(), p.leaves(); !slices.Equal(got, want) {
		t.Errorf("%s: Leaves = %v; want %v", what, got, want)
	}
	again, err := bits.Of(len(p), ones...)
	if err != api.OK || !m.Same(again) || !again.Same(m) {
		t.Errorf("%s: it is not the same as Of(%d, %v), %d", what, len(p), ones, err)
	}
}

// byChance is a map of a size whose bits are by chance, with few ones, some, or many, and its plain one.
func byChance(t *testing.T, r *rand.Rand, size int) (*bits.Map, plain) {
	t.Helper()
	m, p := made(t, size), make(plain, size)
	switch often := r.IntN(5); often {
	case 0:
	case 1:
		p = full(size)
	default:
		for place := range p {
			p[place] = r.IntN(1<<often) == 0
		}
	}
	for _, place := range p.ones() {
		m.Set(place)
	}
	return m, p
}

// full is a plain map of ones.
func full(size int) plain {
	p := make(plain, size)
	for place := range p {
		p[place] = true
	}
	return p
}

// chance is numbers that are the same in each run.
func chance(seed uint64) *rand.Rand {
	return rand.New(rand.NewPCG(11, seed))
}

package bits_test

import (
	"testing"

	"signet/api"
	"signet/bits"
)

// 11.3

// pairing is one of Either, Less and Cross, and what it is to answer, bit by bit.
type pairing struct {
	name string
	call func(m, o *bits.Map) (*bits.Map, api.Errno)
	want func(a, b bool) bool
}

var pairings = []pairing{
	{"Either", (*bits.Map).Either, func(a, b bool) bool { return a || b }},
	{"Less", (*bits.Map).Less, func(a, b bool) bool { return a && !b }},
	{"Cross", (*bits.Map).Cross, func(a, b bool) bool { return a && b }},
}

// plainly is what a pairing of plain maps is.
func (c pairing) plainly(p, q plain) plain {
	l := make(plain, len(p))
	for place := range p {
		l[place] = c.want(p[place], q[place])
	}
	return l
}

func TestPairsOfEachFour(t *testing.T) {
	m, o := made(t, 4, 0, 1), made(t, 4, 0, 2) // both, the first, the second, none
	for _, c := range pairings {
		got, err := c.call(m, o)
		if err != api.OK {
			t.Fatal(c.name, err)
		}
		holds(t, c.name, got, c.plainly(of(4, 0, 1), of(4, 0, 2)))
	}
	either, _ := m.Either(o)
	less, _ := m.Less(o)
	cross, _ := m.Cross(o)
	for place, want := range []string{"either cross", "either less", "either", ""} {
		got := ""
		for i, x := range []*bits.Map{either, less, cross} {
			if x.Has(place) {
				got += []string{"either", " less", " cross"}[i]
			}
		}
		if got != want {
			t.Errorf("the bit %d: %q; want %q", place, got, want)
		}
	}
}

func TestPairs(t *testing.T) {
	for _, size := range sizes {
		for _, p := range patterns(size) {
			for _, q := range patterns(size) {
				m, o := made(t, size, p.ones()...), made(t, size, q.ones()...)
				for _, c := range pairings {
					got, err := c.call(m, o)
					if got == nil || err != api.OK {
						t.Fatalf("%s of maps of %d = %v, %d", c.name, size, got, err)
					}
					if want := made(t, size, c.plainly(p, q).ones()...); !got.Same(want) {
						t.Errorf("%s of %v and %v = %v", c.name, p.ones(), q.ones(), all(got))
					}
				}
			}
		}
	}
}

func TestPairsOfUnlikeSizes(t *testing.T) {
	for _, a := range sizes {
		for _, b := range sizes {
			if a == b {
				continue
			}
			m, o := made(t, a, 0), made(t, b, 0)
			for _, c := range pairings {
				if got, err := c.call(m, o); got != nil || err != api.ErrSize {
					t.Errorf("%s of %d and %d = %v, %d; want ErrSize", c.name, a, b, got, err)
				}
			}
			holds(t, "the first", m, of(a, 0))
			holds(t, "the second", o, of(b, 0))
		}
	}
}

func TestPairsWithNoMap(t *testing.T) {
	for _, size := range sizes {
		m := made(t, size, 0)
		for _, c := range pairings {
			if got, err := c.call(m, nil); got != nil || err != api.ErrSize {
				t.Errorf("%s of %d and nil = %v, %d; want ErrSize", c.name, size, got, err)
			}
		}
		holds(t, "behind nil", m, of(size, 0))
	}
}

// What is put together is neither of both, and all three go their own ways.
func TestPairsAreMapsOfTheirOwn(t *testing.T) {
	for _, size := range []int{16, 1025} {
		for _, c := range pairings {
			m, o := made(t, size, 1, 2), made(t, size, 2, 3)
			p, q := of(size, 1, 2), of(size, 2, 3)
			x, err := c.call(m, o)
			if err != api.OK {
				t.Fatal(err)
			}
			want := c.plainly(p, q)
			holds(t, c.name+": the first", m, p)
			holds(t, c.name+": the second", o, q)
			m.Set(size - 1)
			o.Set(size - 2)
			m.Clear(1)
			o.Clear(2)
			holds(t, c.name+": what both make, behind their change", x, want)
			x.Set(0)
			x.Set(size - 3)
			x.Clear(3)
			holds(t, c.name+": the first, behind its change", m, of(size, 2, size-1))
			holds(t, c.name+": the second, behind its change", o, of(size, 3, size-2))
		}
	}
}

func TestPairsOfAMapWithItself(t *testing.T) {
	for _, size := range sizes {
		for _, p := range patterns(size) {
			m := made(t, size, p.ones()...)
			for _, c := range pairings {
				got, err := c.call(m, m)
				if got == m || err != api.OK {
					t.Fatalf("%s with itself = %v, %d", c.name, got, err)
				}
				holds(t, c.name+" with itself", got, c.plainly(p, p))
				got.Set(0)
				got.Clear(size - 1)
				is(t, c.name+" with itself: what it was", m, p)
			}
		}
	}
}

func TestSame(t *testing.T) {
	for _, size := range sizes {
		for i, p := range patterns(size) {
			m := made(t, size, p.ones()...)
			if !m.Same(m) || !m.Same(made(t, size, p.ones()...)) {
				t.Errorf("the pattern %d of %d is not the same as itself", i, size)
			}
			for _, place := range []int{0, size / 3, size - 1} {
				o := made(t, size, p.ones()...)
				if !o.Set(place) {
					o.Clear(place)
				}
				if m.Same(o) || o.Same(m) {
					t.Errorf("the pattern %d of %d is the same with the bit %d turned over", i, size, place)
				}
			}
		}
	}
}

func TestSameOfUnlikeSizes(t *testing.T) {
	for _, a := range sizes {
		for _, b := range sizes {
			if got := made(t, a, 0).Same(made(t, b, 0)); got != (a == b) {
				t.Errorf("maps of %d and %d: Same = %v", a, b, got)
			}
		}
	}
}

func TestSameWithNoMap(t *testing.T) {
	var none *bits.Map
	for _, size := range sizes {
		m := made(t, size)
		if m.Same(nil) || none.Same(m) {
			t.Errorf("a map of %d is the same as nil", size)
		}
	}
	if !none.Same(nil) {
		t.Error("nil is not the same as nil")
	}
}

// How a map became what it is makes no difference.
func TestSameWhateverWasAhead(t *testing.T) {
	m, o := made(t, 1025), made(t, 1025, 3, 1024)
	if err := m.Fill(0, 1025); err != api.OK {
		t.Fatal(err)
	}
	for place := range 1024 {
		if place != 3 {
			m.Clear(place)
		}
	}
	if !m.Same(o) || !o.Same(m) {
		t.Error("maps with the same bits are not the same")
	}
}

func TestCloneGoesItsOwnWay(t *testing.T) {
	for _, size := range sizes {
		for _, p := range patterns(size) {
			m := made(t, size, p.ones()...)
			c := m.Clone()
			if c == m || !c.Same(m) {
				t.Fatalf("Clone of a map of %d = %v", size, c)
			}
			holds(t, "Clone", c, p)
			for _, place := range []int{0, size - 1} {
				q, other := p.with(place, !p[place]), made(t, size, p.ones()...)
				c := other.Clone()
				turn(c, place)
				is(t, "the map, behind a change of its clone", other, p)
				is(t, "the clone", c, q)
				c = other.Clone()
				turn(other, place)
				is(t, "the clone, behind a change of the map", c, p)
				is(t, "the map", other, q)
			}
		}
	}
}

// turn turns a bit over.
func turn(m *bits.Map, place int) {
	if !m.Set(place) {
		m.Clear(place)
	}
}

// with is a plain map with another bit in a place.
func (p plain) with(place int, is bool) plain {
	q := append(plain{}, p...)
	q[place] = is
	return q
}

package slot_test

import (
	"math"
	"math/rand"
	"slices"
	"testing"

	"signet/api"
	"signet/disk"
	"signet/slot"
)

// model is what a register on a disk must be, by the chapter's words.
type model struct {
	now     api.Slot
	written []api.Slot
	dead    bool
	events  int
	cuts    []api.Cut
}

// event is whether the next event takes place, and its error.
func (m *model) event() (bool, api.Errno) {
	n := m.events
	m.events++
	for _, c := range m.cuts {
		if c.Event == n {
			m.dead = true
			return c.After, api.ErrCut
		}
	}
	return true, api.OK
}

func (m *model) write(s api.Slot) api.Errno {
	if m.dead {
		return api.ErrCut
	}
	if s.Root.At == 0 {
		return api.ErrArg
	}
	if s.Counter != m.now.Counter+1 {
		return api.ErrBack
	}
	takes, err := m.event()
	if takes {
		m.now = s
		m.written = append(m.written, s)
	}
	return err
}

func (m *model) read() (api.Slot, api.Errno) {
	if m.dead {
		return api.Slot{}, api.ErrCut
	}
	return m.now, api.OK
}

// near is a slot about as far as the model's.
func near(r *rand.Rand, m *model) api.Slot {
	s := api.Slot{Counter: m.now.Counter + uint64(r.Intn(9)/3), Root: api.Ref{At: uint32(r.Intn(5))}}
	s.Root.Sum[r.Intn(32)] = byte(r.Intn(3))
	return s
}

// Runs of all calls and cuts answer as the model does (6.1, 6.2, 6.4), and what follows holds behind each (6.5, 6.7).
func TestRuns(t *testing.T) {
	for seed := range int64(60) {
		r := rand.New(rand.NewSource(seed))
		m := &model{}
		d, _ := disk.New(16)
		x := slot.New(d)
		event := 0
		for range 20 {
			event += 1 + r.Intn(12)
			c := api.Cut{Event: event, After: r.Intn(2) == 0}
			d.Cut(c)
			m.cuts = append(m.cuts, c)
		}
		for range 300 {
			step(t, r, x, d, m)
			follows(t, x, d, m)
		}
	}
}

// step does one of the calls that change something.
func step(t *testing.T, r *rand.Rand, x *slot.Register, d *disk.Disk, m *model) {
	t.Helper()
	switch r.Intn(6) {
	case 0:
		d.Revive()
		m.dead = false
	case 1:
		err := d.Write(r.Intn(16), api.Block{byte(r.Intn(9))})
		if m.dead {
			return
		}
		if _, want := m.event(); err != want {
			t.Fatalf("a raw write tells %d, want %d", err, want)
		}
	default:
		s := near(r, m)
		if err, want := x.Write(s), m.write(s); err != want {
			t.Fatalf("Write(%v) = %d, want %d", s, err, want)
		}
	}
}

// follows asks for all that a register tells.
func follows(t *testing.T, x *slot.Register, d *disk.Disk, m *model) {
	t.Helper()
	s, err := x.Read()
	if want, wrong := m.read(); s != want || err != wrong {
		t.Fatalf("Read() = %v, %d; want %v, %d", s, err, want, wrong)
	}
	events(t, d, m.events)
	tells(t, x, m.written)
	if l := x.Between(0, math.MaxUint64); !slices.Equal(l, m.written) {
		t.Fatalf("Between(0, 2^64 - 1) = %v", l)
	}
	for i, w := range m.written {
		if w.Counter != uint64(i)+1 {
			t.Fatalf("counter %d stands at place %d", w.Counter, i)
		}
		if got, is := x.At(w.Counter); got != w || !is {
			t.Fatalf("At(%d) = %v, %v", w.Counter, got, is)
		}
		if n, is := x.Age(w); n != len(m.written)-1-i || !is {
			t.Fatalf("Age(%v) = %d, %v", w, n, is)
		}
	}
	last := api.Slot{}
	if n := len(m.written); n > 0 {
		last = m.written[n-1]
	}
	if err == api.OK && s != last {
		t.Fatalf("Read() = %v is not the last one of Written, %v", s, last)
	}
}

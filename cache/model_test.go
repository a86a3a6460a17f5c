package cache_test

import (
	"math/rand"
	"slices"
	"testing"

	"signet/api"
	"signet/block"
	"signet/digest"
	"signet/disk"
)

// pair is an entry.
type pair struct {
	r api.Ref
	b api.Block
}

// model is what a cache must be, by the chapter's words; it has a disk of its own, on which the same is done.
type model struct {
	d      *disk.Disk
	l      *digest.Log
	room   int
	kept   []pair // the one that was used the longest time ago first
	counts api.Cached
}

// find is the place of an entry, or -1.
func (m *model) find(r api.Ref) int {
	return slices.IndexFunc(m.kept, func(p pair) bool { return p.r == r })
}

// put puts an entry in.
func (m *model) put(r api.Ref, b api.Block) {
	if n := m.find(r); n >= 0 {
		m.kept = slices.Delete(m.kept, n, n+1)
	}
	m.kept = append(m.kept, pair{r, b})
	m.kept = m.kept[max(0, len(m.kept)-m.room):]
}

func (m *model) get(r api.Ref) (api.Block, api.Errno) {
	if n := m.find(r); n >= 0 {
		p := m.kept[n]
		m.put(p.r, p.b)
		m.counts.Hits++
		return p.b, api.OK
	}
	b, err := m.read(r)
	if err == api.OK && r != (api.Ref{}) {
		m.put(r, b)
	}
	return b, err
}

func (m *model) read(r api.Ref) (api.Block, api.Errno) {
	if r == (api.Ref{}) {
		return api.Block{}, api.OK
	}
	if r.At == 0 || int(r.At) >= m.d.Blocks() {
		return api.Block{}, api.ErrTampered
	}
	b, err := m.d.Read(int(r.At))
	if err != api.OK {
		return api.Block{}, err
	}
	m.counts.Reads++
	if m.l.Of(api.TagBlock, string(b[:])) != r.Sum {
		m.counts.Bad++
		return api.Block{}, api.ErrTampered
	}
	return b, api.OK
}

func (m *model) write(at uint32, b api.Block) (api.Ref, api.Errno) {
	if at == 0 || int(at) >= m.d.Blocks() {
		return api.Ref{}, api.ErrArg
	}
	r := api.Ref{At: at, Sum: m.l.Of(api.TagBlock, string(b[:]))}
	if err := m.d.Write(int(at), b); err != api.OK {
		return api.Ref{}, err
	}
	m.counts.Writes++
	m.put(r, b)
	return r, api.OK
}

func (m *model) sweep() ([]api.Ref, api.Errno) {
	var gone []api.Ref
	var left []pair
	for _, p := range m.kept {
		_, err := m.read(p.r)
		if err == api.ErrCut {
			return nil, err
		}
		if err == api.OK {
			left = append(left, p)
		} else {
			gone = append(gone, p.r)
		}
	}
	m.kept = left
	return gone, api.OK
}

// run is a cache and a model of it, both of which get the same calls.
type run struct {
	stand
	m     *model
	r     *rand.Rand
	quiet bool
	told  []api.Ref // what was told by Put, and some that were not
}

// some is a reference that is likely to say something.
func (x *run) some() api.Ref {
	if x.r.Intn(20) == 0 {
		return api.Ref{}
	}
	if x.r.Intn(20) == 0 {
		return api.Ref{At: uint32(x.r.Intn(18)), Sum: block.Sum(api.Block{})}
	}
	if len(x.told) == 0 || x.r.Intn(4) == 0 {
		return ref(uint32(x.r.Intn(18)), full(x.r.Intn(4)))
	}
	return x.told[x.r.Intn(len(x.told))]
}

// step does one call to both.
func (x *run) step() {
	x.t.Helper()
	r := x.some()
	switch x.r.Intn(14) {
	case 0, 1, 2, 3:
		got, err := x.c.Get(r)
		want, e := x.m.get(r)
		if got != want || err != e {
			x.t.Fatalf("Get(%v) = %v, %d; want %v, %d", r, got, err, want, e)
		}
		// Of 8.6: whatever the adversary does.
		if err == api.OK && r != (api.Ref{}) && block.Sum(got) != r.Sum {
			x.t.Fatalf("Get(%v) answered another digest's block", r)
		}
	case 4, 5, 6:
		at, b := uint32(x.r.Intn(18)), full(x.r.Intn(4))
		got, err := x.c.Put(at, b)
		want, e := x.m.write(at, b)
		if got != want || err != e {
			x.t.Fatalf("Put(%d) = %v, %d; want %v, %d", at, got, err, want, e)
		}
		if err == api.OK {
			x.told = append(x.told, got)
		}
	case 7:
		_, e := x.m.read(r)
		if err := x.c.Check(r); err != e {
			x.t.Fatalf("Check(%v) = %d, want %d", r, err, e)
		}
	case 8:
		if got := x.c.Has(r); got != (x.m.find(r) >= 0) {
			x.t.Fatalf("Has(%v) = %v", r, got)
		}
	case 9:
		many := len(x.m.kept)
		x.m.kept = slices.DeleteFunc(x.m.kept, func(p pair) bool { return p.r.At == r.At })
		if got := x.c.Forget(r.At); got != many-len(x.m.kept) {
			x.t.Fatalf("Forget(%d) = %d", r.At, got)
		}
	default:
		x.several()
	}
}

// several does one of the rarer calls to both.
func (x *run) several() {
	x.t.Helper()
	switch x.r.Intn(8) {
	case 0:
		x.c.Clear()
		x.m.kept = nil
	case 1:
		room := x.r.Intn(9) - 1
		if err := x.c.Shrink(room); (err == api.OK) != (room >= 0) {
			x.t.Fatalf("Shrink(%d) = %d", room, err)
		}
		if room >= 0 {
			x.m.room = room
			x.m.kept = x.m.kept[max(0, len(x.m.kept)-room):]
		}
	case 2, 3:
		got, err := x.c.Sweep()
		want, e := x.m.sweep()
		if !slices.Equal(got, want) || err != e {
			x.t.Fatalf("Sweep() = %v, %d; want %v, %d", got, err, want, e)
		}
		// Of 8.8: the adversary did nothing meanwhile.
		if image := x.d.Image(); err == api.OK && x.quiet {
			for _, r := range x.c.Entries() {
				if block.Sum(image[r.At]) != r.Sum {
					x.t.Fatalf("behind Sweep there is an entry %v that the disk does not have", r)
				}
			}
		}
	default:
		x.getAll()
	}
}

func (x *run) getAll() {
	x.t.Helper()
	var l []api.Ref
	for range x.r.Intn(5) {
		l = append(l, x.some())
	}
	got, place, err := x.c.GetAll(l)
	var want []api.Block
	for n, r := range l {
		b, e := x.m.get(r)
		if e != api.OK {
			if len(got) != 0 || place != n || err != e {
				x.t.Fatalf("GetAll(%v) = %v, %d, %d; want %d, %d", l, got, place, err, n, e)
			}
			return
		}
		want = append(want, b)
	}
	if !slices.Equal(got, want) || place != 0 || err != api.OK {
		x.t.Fatalf("GetAll(%v) = %v, %d, %d", l, got, place, err)
	}
}

// like asks that both are alike, and that there are not too many entries (8.6).
func (x *run) like() {
	x.t.Helper()
	var want []api.Ref
	for _, p := range x.m.kept {
		want = append(want, p.r)
	}
	x.has(want...)
	if x.c.Counts() != x.m.counts || x.c.Room() != x.m.room || len(want) > x.c.Room() {
		x.t.Fatalf("%v, %d; want %v, %d", x.c.Counts(), x.c.Room(), x.m.counts, x.m.room)
	}
	if x.d.Ops() != x.m.d.Ops() || x.d.Events() != x.m.d.Events() || x.l.Len() != x.m.l.Len() {
		x.t.Fatalf("%d raw steps, %d events, %d logged; want %d, %d, %d", x.d.Ops(), x.d.Events(), x.l.Len(), x.m.d.Ops(), x.m.d.Events(), x.m.l.Len())
	}
}

// plan is what an adversary does, for both disks.
func (x *run) plan() {
	var steps []api.Step
	for range 60 {
		steps = append(steps, api.Step{Op: 1 + x.r.Intn(300), Kind: 1 + x.r.Intn(3), At: x.r.Intn(16), Data: full(x.r.Intn(4)), Back: x.r.Intn(100)})
	}
	x.d.Plan(steps)
	x.m.d.Plan(steps)
	for range 6 {
		c := api.Cut{Event: x.r.Intn(120), After: x.r.Intn(2) == 0}
		x.d.Cut(c)
		x.m.d.Cut(c)
	}
}

// Runs of all calls answer as the model does, on a quiet disk and on one with an adversary and cuts.
func TestRuns(t *testing.T) {
	for seed := range int64(80) {
		r := rand.New(rand.NewSource(seed))
		room := r.Intn(7)
		d, _ := disk.New(16)
		x := &run{stand: made(t, room), m: &model{d: d, l: digest.NewLog(), room: room}, r: r, quiet: seed%2 == 0}
		if !x.quiet {
			x.plan()
		}
		for range 400 {
			x.step()
			x.like()
			if x.d.Dead() && r.Intn(6) == 0 {
				x.d.Revive()
				x.m.d.Revive()
			}
		}
	}
}

// 8.6, 8.8: on a quiet disk what was put last somewhere is got, whatever the room.
func TestWhatWasPutIsGot(t *testing.T) {
	for seed := range int64(40) {
		r := rand.New(rand.NewSource(seed))
		s := made(t, r.Intn(6))
		var last [16]pair
		for range 200 {
			at := 1 + r.Intn(15)
			if r.Intn(3) == 0 {
				b := full(r.Intn(1000))
				x, err := s.c.Put(uint32(at), b)
				if err != api.OK {
					t.Fatal(err)
				}
				last[at] = pair{x, b}
			}
			if got, err := s.c.Get(last[at].r); got != last[at].b || err != api.OK {
				t.Fatalf("Get(%v) = %v, %d", last[at].r, got, err)
			}
		}
		var l []api.Ref
		var want []api.Block
		for _, p := range last {
			l, want = append(l, p.r), append(want, p.b)
		}
		if got, place, err := s.c.GetAll(l); !slices.Equal(got, want) || place != 0 || err != api.OK {
			t.Fatalf("GetAll = %v, %d, %d", got, place, err)
		}
		if s.c.Counts().Bad != 0 {
			t.Errorf("%d were bad on a quiet disk", s.c.Counts().Bad)
		}
	}
}

package disk_test

import (
	"math/rand"
	"slices"
	"testing"

	"signet/api"
	"signet/disk"
)

// model is a disk that keeps all its blocks at each raw step, as the document's words say it.
type model struct {
	now         []api.Block
	at          [][]api.Block
	plan        []api.Step
	cuts        []api.Cut
	dead        bool
	events      int
	never       int // events that did not take place
	log         []api.Raw
	wear        []int
	quiet       bool // neither a plan nor Load
	lastWritten map[int]api.Block
}

func newModel(blocks int) *model {
	return &model{now: make([]api.Block, blocks), wear: make([]int, blocks), quiet: true, lastWritten: map[int]api.Block{}}
}

func (m *model) step() {
	op := len(m.at)
	for _, s := range m.plan {
		if s.Op != op || s.At < 0 || s.At >= len(m.now) || s.Back < 0 || s.Back >= op {
			continue
		}
		switch s.Kind {
		case 1:
			m.now[s.At] = s.Data
		case 2:
			m.now[s.At] = m.at[s.Back][s.At]
		case 3:
			m.now = slices.Clone(m.at[s.Back])
		}
	}
	m.at = append(m.at, slices.Clone(m.now))
}

func (m *model) event() (bool, api.Errno) {
	takes, err := true, api.OK
	for _, c := range m.cuts {
		if c.Event == m.events {
			m.dead, err = true, api.ErrCut
			if !c.After {
				takes = false
			}
		}
	}
	m.events++
	if !takes {
		m.never++
	}
	return takes, err
}

func (m *model) read(at int) (api.Block, api.Errno) {
	if m.dead {
		return api.Block{}, api.ErrCut
	}
	if at < 0 || at >= len(m.now) {
		return api.Block{}, api.ErrArg
	}
	m.step()
	m.log = append(m.log, api.Raw{Kind: 1, At: at, Data: m.now[at]})
	return m.now[at], api.OK
}

func (m *model) write(at int, b api.Block) api.Errno {
	if m.dead {
		return api.ErrCut
	}
	if at < 0 || at >= len(m.now) {
		return api.ErrArg
	}
	m.step()
	takes, err := m.event()
	if takes {
		m.now[at] = b
		m.lastWritten[at] = b
		m.wear[at]++
		m.log = append(m.log, api.Raw{Kind: 2, At: at, Data: b})
	}
	return err
}

// same holds all that a disk tells against the model.
func (m *model) same(t *testing.T, d *disk.Disk) {
	t.Helper()
	if d.Blocks() != len(m.now) || d.Ops() != len(m.at) || d.Events() != m.events || d.Dead() != m.dead {
		t.Fatalf("%d, %d, %d, %v; want %d, %d, %d, %v", d.Blocks(), d.Ops(), d.Events(), d.Dead(), len(m.now), len(m.at), m.events, m.dead)
	}
	if !slices.Equal(d.Log(), m.log) || !slices.Equal(d.Image(), m.now) || !slices.Equal(d.Wear(), m.wear) {
		t.Fatalf("the log, the image or the wear is wrong")
	}
	took := 0
	for _, r := range d.Log() {
		if r.Kind == api.RawWrite || r.Kind == api.RawSwing {
			took++
		}
	}
	if d.Events() != took+m.never { // 5.5
		t.Fatalf("%d events; %d took place, %d did not", d.Events(), took, m.never)
	}
	for k := -1; k <= len(m.at); k++ {
		at, isAt := d.At(k)
		since, isSince := d.Since(k)
		if k < 0 || k == len(m.at) {
			if isAt || isSince || at != nil || since != nil {
				t.Fatalf("At, Since of %d: %v, %v", k, at, since)
			}
			continue
		}
		var want []int
		for n := range m.now {
			if m.now[n] != m.at[k][n] {
				want = append(want, n)
			}
		}
		if !isAt || !isSince || !slices.Equal(at, m.at[k]) || !slices.Equal(since, want) {
			t.Fatalf("At(%d) or Since(%d) is wrong: %v, want %v", k, k, since, want)
		}
	}
}

// someSteps is a plan of steps near a raw step, some of which do nothing.
func someSteps(r *rand.Rand, op, blocks int) []api.Step {
	var l []api.Step
	for range r.Intn(6) {
		s := api.Step{Op: op + r.Intn(6) - 1, Kind: r.Intn(5), At: r.Intn(blocks), Data: filled(byte(r.Intn(4)))}
		if s.Op > 0 {
			s.Back = r.Intn(s.Op)
		}
		switch r.Intn(12) {
		case 0:
			s.At = []int{-1, blocks}[r.Intn(2)]
		case 1:
			s.Back = -1
		case 2:
			s.Back = s.Op
		case 3:
			s.Back = s.Op + 1
		}
		l = append(l, s)
	}
	return l
}

func someImage(r *rand.Rand, blocks int) []api.Block {
	l := make([]api.Block, blocks)
	for at := range l {
		l[at] = filled(byte(r.Intn(4)))
	}
	return l
}

// turn does one thing of any kind on the disk and on the model.
func (m *model) turn(t *testing.T, d *disk.Disk, r *rand.Rand) {
	t.Helper()
	at := r.Intn(len(m.now)+2) - 1
	switch n := r.Intn(20); {
	case n < 6:
		b, err := d.Read(at)
		if want, e := m.read(at); b != want || err != e {
			t.Fatalf("Read(%d) = %v, %d; want %v, %d", at, b, err, want, e)
		}
		if m.quiet && err == api.OK && b != m.lastWritten[at] { // 5.5
			t.Fatalf("Read(%d) = %v; last written: %v", at, b, m.lastWritten[at])
		}
	case n < 12:
		b := filled(byte(r.Intn(4)))
		if err, want := d.Write(at, b), m.write(at, b); err != want {
			t.Fatalf("Write(%d) = %d, want %d", at, err, want)
		}
	case n == 12:
		if err := d.Barrier(); (err == api.ErrCut) != m.dead || err != api.OK && err != api.ErrCut {
			t.Fatalf("Barrier() = %d", err)
		}
		if !m.dead {
			m.log = append(m.log, api.Raw{Kind: 3})
		}
	case n == 13:
		takes, err := d.Event()
		wantTakes, wantErr := false, api.ErrCut
		if !m.dead {
			if wantTakes, wantErr = m.event(); wantTakes {
				m.log = append(m.log, api.Raw{Kind: 4})
			}
		}
		if takes != wantTakes || err != wantErr {
			t.Fatalf("Event() = %v, %d; want %v, %d", takes, err, wantTakes, wantErr)
		}
	default:
		m.turnOfPower(d, r, n)
	}
}

// turnOfPower does one of what tells nothing.
func (m *model) turnOfPower(d *disk.Disk, r *rand.Rand, n int) {
	switch {
	case n == 14 && m.quiet && r.Intn(4) > 0:
	case n == 14:
		m.plan = someSteps(r, len(m.at), len(m.now))
		d.Plan(m.plan)
		m.quiet = false
	case n == 15 && r.Intn(4) == 0:
		image := someImage(r, len(m.now)+r.Intn(3)-1)
		if d.Load(image) == api.OK {
			m.now = slices.Clone(image)
			m.quiet = false
		}
	case n == 16 && r.Intn(2) == 0:
		c := api.Cut{Event: m.events + r.Intn(5) - 1, After: r.Intn(2) == 0}
		d.Cut(c)
		if c.Event >= m.events && len(m.cuts) < 64 {
			m.cuts = append(m.cuts, c)
		}
	case n > 16:
		d.Revive()
		m.dead = false
	}
}

// 5.1 to 5.6, on runs of all kinds of calls.
func TestRuns(t *testing.T) {
	for seed := range 60 {
		r := rand.New(rand.NewSource(int64(seed)))
		blocks := 16 + r.Intn(5)
		d, m := made(t, blocks), newModel(blocks)
		for n := range 150 {
			m.turn(t, d, r)
			if n%10 == 9 {
				m.same(t, d)
			}
		}
	}
}

// One long run, in which the cuts get to be too many.
func TestALongRun(t *testing.T) {
	r := rand.New(rand.NewSource(500))
	d, m := made(t, 16), newModel(16)
	for range 8000 {
		m.turn(t, d, r)
	}
	m.same(t, d)
	if len(m.cuts) != 64 {
		t.Errorf("%d cuts", len(m.cuts))
	}
}

// R5: two disks to which the same is done tell the same.
func TestTheSameAgain(t *testing.T) {
	one, other := made(t, 16), made(t, 16)
	for _, d := range []*disk.Disk{one, other} {
		r := rand.New(rand.NewSource(77))
		m := newModel(16)
		for range 400 {
			m.turn(t, d, r)
		}
	}
	if !slices.Equal(one.Log(), other.Log()) || !slices.Equal(one.Image(), other.Image()) || one.Ops() != other.Ops() {
		t.Error("two disks to which the same was done differ")
	}
}

package disk_test

import (
	"math"
	"slices"
	"testing"

	"signet/api"
	"signet/disk"
)

// event makes an event, and asks for what it answers.
func event(t *testing.T, d *disk.Disk, takes bool, want api.Errno) {
	t.Helper()
	if got, err := d.Event(); got != takes || err != want {
		t.Errorf("Event() = %v, %d; want %v, %d", got, err, takes, want)
	}
}

// 5.2: cuts of the power.

func TestEvents(t *testing.T) {
	d := made(t, 16)
	d.Plan([]api.Step{{Op: 1, Kind: api.StepBlock, At: 3, Data: filled(9)}})
	reads(t, d, 3, api.Block{})
	event(t, d, true, api.OK)
	writes(t, d, 4, filled(1), api.OK)
	event(t, d, true, api.OK)
	event(t, d, true, api.OK)
	d.Barrier()
	counts(t, d, 2, 4)
	if d.Dead() {
		t.Error("dead, and no cut was set")
	}
	reads(t, d, 3, filled(9))
	counts(t, d, 3, 4)
}

func TestACutAheadOfAWrite(t *testing.T) {
	d := made(t, 16)
	writes(t, d, 3, filled(1), api.OK)
	d.Cut(api.Cut{Event: 2})
	writes(t, d, 3, filled(2), api.OK)
	if d.Dead() {
		t.Error("dead ahead of the cut")
	}
	reads(t, d, 3, filled(2))
	writes(t, d, 3, filled(3), api.ErrCut)
	counts(t, d, 4, 3)
	if !d.Dead() || d.Image()[3] != filled(2) || len(d.Log()) != 3 || d.Wear()[3] != 2 {
		t.Errorf("dead: %v, %v", d.Dead(), d.Log())
	}
	if l, is := d.At(3); !is || l[3] != filled(2) {
		t.Errorf("At(3) = %v, %v", l, is)
	}
	d.Revive()
	reads(t, d, 3, filled(2))
	writes(t, d, 3, filled(4), api.OK)
	counts(t, d, 6, 4)
}

func TestACutBehindAWrite(t *testing.T) {
	d := made(t, 16)
	d.Cut(api.Cut{Event: 1, After: true})
	writes(t, d, 3, filled(1), api.OK)
	writes(t, d, 3, filled(2), api.ErrCut)
	counts(t, d, 2, 2)
	if !d.Dead() || d.Image()[3] != filled(2) || d.Wear()[3] != 2 {
		t.Errorf("dead: %v, %v", d.Dead(), d.Log())
	}
	if l := d.Log(); len(l) != 2 || l[1] != (api.Raw{Kind: api.RawWrite, At: 3, Data: filled(2)}) {
		t.Errorf("Log() = %v", l)
	}
	d.Revive()
	reads(t, d, 3, filled(2))
	writes(t, d, 3, filled(3), api.OK)
}

func TestCutsOfEvent(t *testing.T) {
	d := made(t, 16)
	d.Cut(api.Cut{Event: 0})
	event(t, d, false, api.ErrCut)
	event(t, d, false, api.ErrCut)
	counts(t, d, 0, 1)
	if !d.Dead() || len(d.Log()) != 0 {
		t.Errorf("dead: %v, %v", d.Dead(), d.Log())
	}
	d.Revive()
	d.Cut(api.Cut{Event: 1, After: true})
	event(t, d, true, api.ErrCut)
	event(t, d, false, api.ErrCut)
	counts(t, d, 0, 2)
	if !d.Dead() || !slices.Equal(d.Log(), []api.Raw{{Kind: api.RawSwing}}) {
		t.Errorf("dead: %v, %v", d.Dead(), d.Log())
	}
	d.Revive()
	event(t, d, true, api.OK)
	counts(t, d, 0, 3)
}

// Reads and barriers are no events: no cut strikes there.
func TestNoCutOfReadsAndBarriers(t *testing.T) {
	d := made(t, 16)
	d.Cut(api.Cut{Event: 0})
	d.Cut(api.Cut{Event: 0, After: true})
	for range 3 {
		reads(t, d, 3, api.Block{})
		if err := d.Barrier(); err != api.OK {
			t.Errorf("Barrier() = %d", err)
		}
	}
	if d.Dead() {
		t.Error("dead")
	}
}

// A cut of what is done already does nothing, not even count.
func TestCutsOfWhatIsDone(t *testing.T) {
	d := made(t, 16)
	for range 3 {
		event(t, d, true, api.OK)
	}
	for range 70 {
		for _, e := range []int{-1, 0, 1, 2, math.MinInt} {
			d.Cut(api.Cut{Event: e})
			d.Cut(api.Cut{Event: e, After: true})
		}
	}
	if d.Dead() {
		t.Error("dead")
	}
	event(t, d, true, api.OK)
	writes(t, d, 3, filled(3), api.OK)
	d.Cut(api.Cut{Event: 5})
	writes(t, d, 3, filled(4), api.ErrCut)
	if b := d.Image()[3]; b != filled(3) {
		t.Errorf("the block is %v", b)
	}
}

// Ahead of an event is sooner than behind it, in whichever order the cuts were set.
func TestTwoCutsOfOneEvent(t *testing.T) {
	ahead, behind := api.Cut{Event: 1}, api.Cut{Event: 1, After: true}
	for _, c := range []struct {
		cuts  []api.Cut
		takes bool
	}{
		{[]api.Cut{ahead, behind}, false},
		{[]api.Cut{behind, ahead}, false},
		{[]api.Cut{ahead, ahead}, false},
		{[]api.Cut{behind, behind}, true},
	} {
		d, e := made(t, 16), made(t, 16)
		for _, cut := range c.cuts {
			d.Cut(cut)
			e.Cut(cut)
		}
		writes(t, d, 3, filled(1), api.OK)
		event(t, e, true, api.OK)
		writes(t, d, 3, filled(2), api.ErrCut)
		event(t, e, c.takes, api.ErrCut)
		if d.Image()[3] == filled(2) != c.takes {
			t.Errorf("%v: %v", c.cuts, d.Image()[3])
		}
		d.Revive()
		e.Revive()
		// One event is struck by both, so that none waits for the next one.
		writes(t, d, 3, filled(3), api.OK)
		event(t, e, true, api.OK)
		counts(t, d, 3, 3)
		counts(t, e, 0, 3)
	}
}

// The sixty-fifth cut does nothing, also where those ahead of it have struck.
func TestMaxCuts(t *testing.T) {
	d := made(t, 16)
	for n := range 65 {
		d.Cut(api.Cut{Event: 64 - n, After: n%2 == 0})
	}
	event(t, d, true, api.OK) // the cut of event 0 was the sixty-fifth
	for n := range 64 {
		event(t, d, (n+1)%2 == 0, api.ErrCut)
		d.Revive()
	}
	for range 3 {
		d.Cut(api.Cut{Event: d.Events()})
		event(t, d, true, api.OK)
	}
}

func TestMaxCutsOneByOne(t *testing.T) {
	d := made(t, 16)
	for range 64 {
		d.Cut(api.Cut{Event: d.Events()})
		event(t, d, false, api.ErrCut)
		d.Revive()
	}
	d.Cut(api.Cut{Event: 64})
	event(t, d, true, api.OK)
	counts(t, d, 0, 65)
}

// Cuts of one event count one by one.
func TestMaxCutsOfOneEvent(t *testing.T) {
	d := made(t, 16)
	for range 64 {
		d.Cut(api.Cut{Event: 5})
	}
	d.Cut(api.Cut{Event: 0})
	event(t, d, true, api.OK)
}

// A dead disk takes a cut, too.
func TestCutOfADeadDisk(t *testing.T) {
	d := killed(t)
	d.Cut(api.Cut{Event: 0})
	d.Cut(api.Cut{Event: 1, After: true})
	d.Revive()
	writes(t, d, 3, filled(3), api.ErrCut)
	if d.Image()[3] != filled(3) {
		t.Error("a cut ahead of an event that is done struck")
	}
}

func TestRevive(t *testing.T) {
	d := made(t, 16)
	writes(t, d, 3, filled(1), api.OK)
	before := d.Image()
	d.Revive()
	counts(t, d, 1, 1)
	if d.Dead() || !slices.Equal(d.Image(), before) || len(d.Log()) != 1 {
		t.Error("Revive of a disk that is alive did something")
	}
	d.Cut(api.Cut{Event: 1})
	d.Revive() // no cut is taken away by it
	writes(t, d, 3, filled(2), api.ErrCut)
	d.Revive()
	counts(t, d, 2, 2)
	if d.Dead() || !slices.Equal(d.Image(), before) || len(d.Log()) != 1 {
		t.Error("Revive of a dead disk did more than it should")
	}
	d.Revive()
	reads(t, d, 3, filled(1))
}

package commit_test

import (
	"math"
	"slices"
	"testing"

	"signet/api"
	"signet/commit"
	"signet/digest"
	"signet/slot"
)

// 21.2

// What a state tells is what it was made of.
func TestTold(t *testing.T) {
	for _, blocks := range []int{32, 64, 1025} {
		p := standing(t, blocks)
		s, _ := p.state()
		if s.Slot() != p.slot || s.Root() != p.root || s.Stamp() != p.slot.Counter+1 || s.Stamp() != 3 {
			t.Errorf("a state tells %v, %+v, %d; want %v, %+v, 3", s.Slot(), s.Root(), s.Stamp(), p.slot, p.root)
		}
		if s.Inodes() != p.x || s.Cache() != p.c || s.Dead() {
			t.Errorf("a state has other inodes, another cache, or is dead")
		}
		if m := s.Room(); m.Blocks() != blocks || !slices.Equal(m.List(api.RoomUsed), p.m.List(api.RoomUsed)) || m.Count(api.RoomTaken)+m.Count(api.RoomLet) != 0 {
			t.Errorf("a state has another room: %v", m.List(api.RoomUsed))
		}
	}
}

// The stamp is the counter and 1, of the highest one, too.
func TestStamp(t *testing.T) {
	for _, counter := range []uint64{0, 1, 2, 255, 1 << 32, math.MaxInt64, math.MaxUint64 - 1, math.MaxUint64} {
		p := standing(t, 64)
		p.slot.Counter, p.root.Counter = counter, counter
		s, err := p.state()
		if err != api.OK || s.Slot().Counter != counter || s.Stamp() != counter+1 {
			t.Errorf("of the counter %d Stamp = %d, %d", counter, s.Stamp(), err)
		}
	}
}

// What is done to the inodes that a state tells is done to its working form, ahead of a commit and behind it.
func TestInodesThemselves(t *testing.T) {
	k := made(t, 64, 4, scattered)
	x := k.s.Inodes()
	for range 3 {
		k.make(file, 1)
		if n, err := k.s.New(); n != newOf(k.was, k.now, 64) || err != api.OK {
			t.Fatalf("New = %d, %d; want %d", n, err, newOf(k.was, k.now, 64))
		}
		k.commit()
		if k.s.Inodes() != x {
			t.Fatal("behind a commit the inodes are others")
		}
	}
}

func TestKeep(t *testing.T) {
	k := scene{"", 64, scattered, some, func(*system) {}}.set(t, 4)
	first := k.s.Inodes()
	other := first.Clone()
	if err := k.s.Keep(other); err != api.OK || k.s.Inodes() != other {
		t.Fatalf("Keep = %d, or other inodes are kept", err)
	}
	k.set(2, 0, full(77))
	if err := k.s.Keep(nil); err != api.ErrArg || k.s.Inodes() != other {
		t.Errorf("Keep(nil) = %d, or other inodes are kept", err)
	}
	if n, err := k.s.New(); n != newOf(k.was, k.now, 64) || n == 0 || err != api.OK {
		t.Errorf("New of what is kept = %d, %d", n, err)
	}
	k.ok(k.s.Keep(first))
	if n, err := k.s.New(); n != 0 || err != api.OK {
		t.Errorf("New of what was there first = %d, %d", n, err)
	}
	k.ok(k.s.Keep(other), k.s.Keep(other))
	k.commit()
	if k.s.Inodes() != other {
		t.Error("behind a commit other inodes are kept")
	}
}

// What Room hands out is a copy: whatever is done to it, the state's is as it was.
func TestRoomIsACopy(t *testing.T) {
	k := scene{"", 64, scattered, some, more}.set(t, 4)
	ahead := tell(k.s)
	a, b := k.s.Room(), k.s.Room()
	if a == b {
		t.Fatal("the same room twice")
	}
	for range 10 {
		a.Take()
	}
	a.LetAll(ahead.used)
	a.Swing()
	k.same("behind what was done to a copy", tell(k.s), ahead)
	if !slices.Equal(b.List(api.RoomUsed), ahead.used) {
		t.Error("another copy is another one now")
	}
	k.commit()
	if !slices.Equal(b.List(api.RoomUsed), ahead.used) {
		t.Error("a copy goes along with a commit")
	}
}

// What others took of the room that a state stands on has no part in what is committed, and takes no room away from it.
func TestARoomInUse(t *testing.T) {
	k := made(t, 16, 0, scattered)
	p, _ := partsOf(t, k.d, k.r, nil, 0)
	for range 12 {
		p.m.Take()
	}
	var err api.Errno
	k.s, err = p.state()
	k.ok(err)
	k.make(file, 1)
	k.fill(2, 6)
	if n, err := k.s.New(); n != 12 || err != api.OK {
		t.Fatalf("New = %d, %d; want 12", n, err)
	}
	if err := k.s.Commit(); err != api.OK {
		t.Fatalf("Commit = %d", err)
	}
	k.was = k.now
	s, _ := k.r.Read()
	if _, root, used := whole(t, k.d.Image(), s); len(used) != 12 || root != k.s.Root() || k.s.Room().Count(api.RoomUsed) != 12 || k.s.Room().Count(api.RoomTaken) != 0 {
		t.Errorf("%d blocks are used, the root is %+v", len(used), root)
	}
}

// A state is dead behind a commit that answered ErrCut, and behind nothing else.
func TestDead(t *testing.T) {
	k := scene{"", 64, scattered, some, more}.set(t, 0)
	k.dies()
	if n, err := k.s.New(); n != 0 || err != api.ErrCut || k.s.Dead() {
		t.Errorf("New without power = %d, %d; dead: %v", n, err, k.s.Dead())
	}
	if err := k.s.Fits(); err != api.ErrCut || k.s.Dead() {
		t.Errorf("Fits without power = %d; dead: %v", err, k.s.Dead())
	}
	k.d.Revive()
	if err := k.s.Fits(); err != api.OK || k.s.Dead() {
		t.Errorf("Fits with power again = %d; dead: %v", err, k.s.Dead())
	}
	k.dies()
	ahead, from := tell(k.s), k.d.Ops()
	if err := k.s.Commit(); err != api.ErrCut || k.d.Ops() != from {
		t.Errorf("Commit without power = %d", err)
	}
	ahead.dead = true
	k.same("behind a commit without power", tell(k.s), ahead)
	k.d.Revive()
	k.isDead("with power again", ahead)
}

// isDead asks that all calls of a state that is dead answer as they must.
func (k *system) isDead(what string, want told) {
	k.t.Helper()
	from, events := k.d.Ops(), k.d.Events()
	if n, err := k.s.New(); n != 0 || err != api.ErrCut {
		k.t.Errorf("%s New of a dead state = %d, %d", what, n, err)
	}
	if err := k.s.Fits(); err != api.ErrCut {
		k.t.Errorf("%s Fits of a dead state = %d", what, err)
	}
	if err := k.s.Commit(); err != api.ErrCut {
		k.t.Errorf("%s Commit of a dead state = %d", what, err)
	}
	if k.d.Ops() != from || k.d.Events() != events {
		k.t.Errorf("%s a dead state has done something", what)
	}
	if !k.s.Dead() {
		k.t.Errorf("%s the state is not dead", what)
	}
	k.same(what, tell(k.s), want)
	if err := k.s.Keep(nil); err != api.ErrArg {
		k.t.Errorf("%s Keep(nil) of a dead state = %d", what, err)
	}
	x := want.inodes.Clone()
	if err := k.s.Keep(x); err != api.OK || k.s.Inodes() != x {
		k.t.Errorf("%s Keep of a dead state = %d", what, err)
	}
	k.ok(k.s.Keep(want.inodes))
	if err := k.s.Commit(); err != api.ErrCut {
		k.t.Errorf("%s Commit of a dead state that keeps other inodes = %d", what, err)
	}
}

// 21.5
func TestNilState(t *testing.T) {
	var s *commit.State
	k := made(t, 16, 0, scattered)
	for range 2 {
		if s.Slot() != (api.Slot{}) || s.Root() != (api.Super{}) || s.Stamp() != 0 {
			t.Errorf("a nil state tells %v, %v, %d", s.Slot(), s.Root(), s.Stamp())
		}
		if s.Inodes() != nil || s.Room() != nil || s.Cache() != nil || !s.Dead() {
			t.Error("a nil state has something, or is not dead")
		}
		if a, b := s.Keep(nil), s.Keep(k.s.Inodes()); a != api.ErrCut || b != api.ErrCut {
			t.Errorf("Keep of a nil state = %d, %d", a, b)
		}
		if n, err := s.New(); n != 0 || err != api.ErrCut {
			t.Errorf("New of a nil state = %d, %d", n, err)
		}
		if a, b := s.Fits(), s.Commit(); a != api.ErrCut || b != api.ErrCut {
			t.Errorf("Fits and Commit of a nil state = %d, %d", a, b)
		}
	}
}

// A state whose register has gone on, or never was where its slot says: none of its blocks is written.
func TestARegisterThatWentOn(t *testing.T) {
	k := scene{"", 64, scattered, some, func(*system) {}}.set(t, 0)
	other := mounted(t, k.d, k.r, 0)
	k.make(file, 1)
	k.fill(9, 2)
	other.touch(1)
	other.commit()
	ahead, from, image := tell(k.s), len(k.d.Log()), k.d.Image()
	for range 2 {
		if err := k.s.Commit(); err != api.ErrBack {
			t.Fatalf("Commit behind another state's = %d; want ErrBack", err)
		}
		k.untouched("behind another state's commit", from)
		k.same("behind another state's commit", tell(k.s), ahead)
	}
	if !slices.Equal(k.d.Image(), image) {
		t.Error("another state's blocks are written over")
	}
	other.touch(2)
	other.commit()

	for _, counter := range []uint64{0, 1, 4, math.MaxUint64 - 1, math.MaxUint64} {
		p := standing(t, 64)
		p.slot.Counter, p.root.Counter = counter, counter
		s, err := p.state()
		k := &system{t: t, d: p.c.Disk(), r: p.r, s: s}
		k.ok(err, s.Inodes().Touch(1, 9))
		from := len(k.d.Log())
		if err := s.Commit(); err != api.ErrBack || s.Dead() {
			t.Errorf("Commit of the counter %d = %d; want ErrBack", counter, err)
		}
		k.untouched("with another counter", from)
	}
}

// The register's power is that of its own disk.
func TestARegisterWithoutPower(t *testing.T) {
	k := scene{"", 64, scattered, some, func(*system) {}}.set(t, 0)
	p, _ := partsOf(t, k.d, k.r, digest.NewLog(), 0)
	p.r = slot.New(nil)
	s, err := p.state()
	k.ok(err)
	k.s = s
	k.touch(1)
	from := len(k.d.Log())
	if err := s.Commit(); err != api.ErrCut || !s.Dead() {
		t.Errorf("Commit with a register without power = %d, dead: %v", err, s.Dead())
	}
	k.untouched("with a register without power", from)
}

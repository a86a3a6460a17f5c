package commit_test

import (
	"fmt"
	"maps"
	"testing"

	"signet/api"
)

// 21.4, 21.6, T4

// cutAt is a scene's system behind a commit at whose event the power failed: it has the register's slot ahead of it or behind it.
func (c scene) cutAt(t *testing.T, cached, event int, after bool) {
	t.Helper()
	what := fmt.Sprintf("%s, cut at the event %d, after: %v:", c.name, event, after)
	k := c.set(t, cached)
	many := newOf(k.was, k.now, c.blocks)
	ahead, used, raw := tell(k.s), k.used(), len(k.d.Log())
	k.d.Cut(api.Cut{Event: k.d.Events() + event, After: after})
	if err := k.s.Commit(); err != api.ErrCut {
		t.Fatalf("%s Commit = %d; want ErrCut", what, err)
	}
	for _, e := range k.d.Log()[raw:] {
		if e.Kind == api.RawWrite && used[uint32(e.At)] {
			t.Fatalf("%s the block %d is used, and written", what, e.At)
		}
	}
	ahead.dead = true
	k.isDead(what, ahead)
	k.d.Revive()
	k.isDead(what+" with power again", ahead)

	s, err := k.r.Read()
	k.ok(err)
	want := k.was
	swung := event == many && after
	if swung {
		want = k.now
		if s.Counter != ahead.slot.Counter+1 || k.r.Swings() != int(s.Counter) {
			t.Fatalf("%s the register has %v; want the next slot", what, s)
		}
	} else if s != ahead.slot {
		t.Fatalf("%s the register has %v; want %v", what, s, ahead.slot)
	}
	if f, _, _ := whole(t, k.d.Image(), s); !maps.Equal(f, want) {
		t.Fatalf("%s committed is %s; want %s", what, f.brief(), want.brief())
	}
	// What is mounted behind it is that tree, and goes on.
	other := mounted(t, k.d, k.r, cached)
	other.holds(what)
	other.news(0)
	if swung {
		other.touch(1)
	} else {
		c.then(other)
	}
	other.commit()
}

// The power fails at each event of a commit, ahead of it or behind it.
func TestCutAtEachEvent(t *testing.T) {
	t.Parallel()
	for _, c := range scenes() {
		for _, cached := range []int{0, 64} {
			if c.blocks > 1025 && cached > 0 {
				continue
			}
			k := c.set(t, cached)
			many := newOf(k.was, k.now, c.blocks)
			from := k.d.Events()
			k.ok(k.s.Commit())
			if k.d.Events() != from+many+1 {
				t.Fatalf("%s: a commit of %d events; want %d", c.name, k.d.Events()-from, many+1)
			}
			for event := range many + 1 {
				c.cutAt(t, cached, event, false)
				c.cutAt(t, cached, event, true)
			}
		}
	}
}

// A cut that is behind all events of a commit does nothing to it.
func TestCutBehindTheCommit(t *testing.T) {
	for _, c := range scenes() {
		k := c.set(t, 0)
		many := newOf(k.was, k.now, c.blocks)
		k.d.Cut(api.Cut{Event: k.d.Events() + many + 1})
		k.commit()
		k.touch(1)
		if err := k.s.Commit(); err != api.ErrCut {
			t.Errorf("%s: the next Commit = %d; want ErrCut", c.name, err)
		}
	}
}

// Cut after cut, with a mount behind each, until it is done.
func TestCutsInARow(t *testing.T) {
	k := made(t, 64, 3, scattered)
	for round := range 60 {
		k.now = maps.Clone(k.was)
		if len(k.was) < 6 {
			k.make(file, 1)
		}
		n := 2 + round%4
		if _, is := k.now[n]; !is {
			n = 1
		}
		if n > 1 {
			k.fill(n, 1+round%3)
			k.set(n, 0, full(round))
		}
		k.touch(1)
		many := newOf(k.was, k.now, 64)
		event := round * 5 % (many + 2)
		k.d.Cut(api.Cut{Event: k.d.Events() + event, After: round%2 == 1})
		now := k.now
		err := k.s.Commit()
		if cut := event <= many; cut != (err == api.ErrCut) || !cut && err != api.OK {
			t.Fatalf("round %d: Commit = %d with a cut at %d of %d", round, err, event, many)
		}
		k.d.Revive()
		was := k.was
		if err == api.OK || event == many && round%2 == 1 {
			was = now
		}
		k = mounted(t, k.d, k.r, 3)
		if !maps.Equal(k.was, was) {
			t.Fatalf("round %d: committed is %s; want %s", round, k.was.brief(), was.brief())
		}
	}
}

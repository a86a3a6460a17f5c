package commit_test

import (
	"maps"
	"math/rand/v2"
	"testing"

	"signet/api"
)

// draw changes something of the working form at random.
func (k *system) draw(r *rand.Rand) {
	k.t.Helper()
	n := 1 + r.IntN(9)
	x, is := k.now[n]
	switch pick := r.IntN(12); {
	case pick < 2:
		if len(k.now) < 30 {
			k.make(file, 1)
		}
	case !is || n == 1:
		k.touch(1)
	case pick < 4:
		k.size(n, r.IntN(9*256))
	case pick < 9:
		if len(x.text) > 0 {
			b := full(r.IntN(4))
			if r.IntN(4) == 0 {
				b = api.Block{}
			}
			k.set(n, r.IntN((len(x.text)+255)/256), b)
		}
	case pick < 10:
		if x.links == 1 {
			k.links(n, 1)
		} else {
			k.links(n, -1)
		}
	case pick < 11:
		k.drop(n)
		k.touch(1)
	default:
		k.touch(n)
	}
}

// drawn does changes, commits, cuts and what the adversary does at random, each held against the forms without a disk.
func drawn(t *testing.T, seed uint64, blocks, cached int) (commits, full, cuts, tampered int) {
	r := rand.New(rand.NewPCG(seed, 21))
	k := made(t, blocks, cached, []layout{scattered, atTheEnd}[r.IntN(2)])
	for range 120 {
		base, now := k.s.Inodes(), maps.Clone(k.now)
		k.ok(k.s.Keep(base.Clone()))
		for range 1 + r.IntN(3) {
			k.draw(r)
		}
		many := newOf(k.was, k.now, blocks)
		if n, err := k.s.New(); n != many || err != api.OK {
			t.Fatalf("New = %d, %d; want %d", n, err, many)
		}
		if k.s.Root().Used+many > blocks-1 {
			full++
			if a, b := k.s.Fits(), k.s.Commit(); a != api.ErrNoSpace || b != api.ErrNoSpace {
				t.Fatalf("Fits and Commit = %d, %d; want ErrNoSpace", a, b)
			}
			k.ok(k.s.Keep(base))
			k.now = now
			continue
		}
		k.ok(k.s.Fits())
		switch pick := r.IntN(10); {
		case pick < 4:
			k.commit()
			commits++
		case pick < 5 && many > 0:
			k = k.cutAnywhere(r, many, cached)
			cuts++
		case pick < 7 && many > 0:
			if k.tamperedAnywhere(r) {
				tampered++
			}
		}
	}
	return
}

// cutAnywhere commits with a cut, and is the system that is mounted behind it.
func (k *system) cutAnywhere(r *rand.Rand, many, cached int) *system {
	k.t.Helper()
	event, after := r.IntN(many+1), r.IntN(2) == 0
	k.d.Cut(api.Cut{Event: k.d.Events() + event, After: after})
	if err := k.s.Commit(); err != api.ErrCut || !k.s.Dead() {
		k.t.Fatalf("Commit with a cut = %d", err)
	}
	k.d.Revive()
	want := k.was
	if event == many && after {
		want = k.now
	}
	other := mounted(k.t, k.d, k.r, cached)
	if !maps.Equal(other.was, want) {
		k.t.Fatalf("behind a cut committed is %s; want %s", other.was.brief(), want.brief())
	}
	return other
}

// tamperedAnywhere commits with blocks written over ahead of some raw step, and tells whether that was met. The disk is as ever behind it.
func (k *system) tamperedAnywhere(r *rand.Rand) bool {
	k.t.Helper()
	image, ahead, from := k.d.Image(), tell(k.s), len(k.d.Log())
	var blocks []uint32
	for _, at := range ahead.used {
		if r.IntN(3) > 0 {
			blocks = append(blocks, at)
		}
	}
	many := newOf(k.was, k.now, k.d.Blocks())
	k.d.Plan(over(k.d.Ops()+r.IntN(4), blocks, func(int) api.Block { return junk() }))
	err := k.s.Commit()
	k.d.Plan(nil)
	switch err {
	case api.OK:
		// All of it was written: with what was written over laid back it is whole.
		now := k.d.Image()
		for _, at := range blocks {
			now[at] = image[at]
		}
		k.d.Load(now)
		k.was = maps.Clone(k.now)
		k.behind(ahead, many)
		return false
	case api.ErrTampered:
		k.untouched("tampered", from)
		k.same("tampered", tell(k.s), ahead)
		k.d.Load(image)
		k.holds("laid back")
		return true
	}
	k.t.Fatalf("Commit with blocks written over = %d", err)
	return false
}

func TestDrawn(t *testing.T) {
	t.Parallel()
	var commits, full, cuts, tampered int
	for seed := range uint64(40) {
		blocks := []int{16, 20, 28, 40, 64, 200, 1024, 1025, 4097, 8192}[seed%10]
		a, b, c, d := drawn(t, seed, blocks, []int{0, 0, 1, 7, 300}[seed%5])
		commits, full, cuts, tampered = commits+a, full+b, cuts+c, tampered+d
	}
	if commits < 300 || full < 100 || cuts < 60 || tampered < 60 {
		t.Errorf("%d commits, %d were full, %d cuts, %d tampered", commits, full, cuts, tampered)
	}
}

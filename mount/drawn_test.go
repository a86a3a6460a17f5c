package mount_test

import (
	"maps"
	"math/rand/v2"
	"slices"
	"testing"

	"signet/api"
	"signet/commit"
	"signet/mount"
)

// 24.4, 24.6, T1, T2, T4, T5: systems that are formatted, changed, committed, cut and mounted again in drawn orders.

// run is a rig and all that was committed there, without a disk.
type run struct {
	rig
	rand   *rand.Rand
	was    names
	images [][]api.Block // behind each commit
	roots  []api.Super   // by the slots' counters, from 1 on

	commits, dropped, full, cuts, spoilt, refused int
}

// drawnFormat is a run behind a Format, which may have been cut some times.
func drawnFormat(t *testing.T, r *rand.Rand, blocks int) *run {
	g := empty(t, blocks)
	for range r.IntN(3) {
		g.d.Cut(api.Cut{Event: g.d.Events() + r.IntN(mapBlocks(blocks)+3), After: false})
		if err := mount.Format(g.d, g.r, g.l); err != api.ErrCut {
			t.Fatalf("Format with a cut = %d", err)
		}
		g.d.Revive()
		g.unmounted("behind a cut", api.ErrFresh, api.ErrFresh, api.Super{})
	}
	g.ok(mount.Format(g.d, g.r, g.l))
	g.fresh(blocks, mapBlocks(blocks))
	k := &run{rig: g, rand: r, was: rootAlone(), roots: []api.Super{{}}}
	k.committed(g.mount(0))
	return k
}

// cached is how many blocks the next mount may keep.
func (k *run) cached() int { return []int{0, 1, 5, 40, api.MaxCache}[k.rand.IntN(5)] }

// committed keeps what there is behind a commit.
func (k *run) committed(s *commit.State) {
	k.images = append(k.images, k.d.Image())
	k.roots = append(k.roots, s.Root())
}

// step mounts the system, changes it, and commits it or does not, with a cut or without.
func (k *run) step() {
	k.t.Helper()
	s := k.mount(k.cached())
	k.shows("mounted", s, k.was)
	now := maps.Clone(k.was)
	for range 1 + k.rand.IntN(4) {
		k.ok(now.draw(k.rand, s.Inodes(), s.Stamp()))
	}
	k.shows("changed", s, now)
	fresh, err := s.New()
	k.ok(err)
	k.left(s, s.Root().Blocks-1-s.Root().Used-fresh)
	switch pick := k.rand.IntN(10); {
	case pick < 2:
		k.dropped++
	case s.Fits() != api.OK:
		k.full++
		if err := s.Commit(); err != api.ErrNoSpace {
			k.t.Fatalf("Commit = %d; want ErrNoSpace", err)
		}
	case pick < 4 && fresh > 0:
		k.cut(s, now, fresh)
	default:
		k.ok(s.Commit())
		if k.commits++; fresh > 0 {
			k.was = now
			k.committed(s)
		}
	}
	k.look()
}

// cut commits with a cut at one of its events: what is mounted behind it is the tree ahead of it, or behind it.
func (k *run) cut(s *commit.State, now names, fresh int) {
	k.t.Helper()
	k.cuts++
	event, after := k.rand.IntN(fresh+1), k.rand.IntN(2) == 0
	k.d.Cut(api.Cut{Event: k.d.Events() + event, After: after})
	if err := s.Commit(); err != api.ErrCut {
		k.t.Fatalf("Commit with a cut = %d", err)
	}
	k.unmounted("behind a cut", api.ErrCut, api.ErrCut, api.Super{})
	k.d.Revive()
	if event == fresh && after {
		k.was = now
		k.committed(k.mount(0))
	} else {
		// Free blocks may be other ones now.
		k.images[len(k.images)-1] = k.d.Image()
	}
}

// look looks at what there is: two mounts say the same, and each older slot's root is told, if its block stands.
func (k *run) look() {
	k.t.Helper()
	a, b := k.mount(k.cached()), k.mount(k.cached())
	root := k.roots[len(k.roots)-1]
	if a.Slot() != b.Slot() || a.Root() != root || b.Root() != root || a.Stamp() != b.Stamp() || a.Slot() != k.slot() {
		k.t.Fatalf("mounted are %+v and %+v; want %+v", a.Root(), b.Root(), root)
	}
	if !slices.Equal(a.Room().List(api.RoomUsed), b.Room().List(api.RoomUsed)) || a.Room().Count(api.RoomUsed) != root.Used {
		k.t.Fatalf("used are %v and %v; want %d", a.Room().List(api.RoomUsed), b.Room().List(api.RoomUsed), root.Used)
	}
	k.shows("mounted again", a, k.was)
	k.shows("mounted once more", b, k.was)
	if x, err := mount.Peek(k.d, k.r, k.l); x != root || err != api.OK {
		k.t.Fatalf("Peek = %+v, %d; want %+v", x, err, root)
	}
	for _, s := range k.r.Written() {
		if k.d.Image()[s.Root.At] == k.images[s.Counter-1][s.Root.At] {
			k.older("a slot whose block stands", s, k.roots[s.Counter], api.OK)
		} else {
			k.older("a slot whose block is another one now", s, api.Super{}, api.ErrTampered)
		}
	}
	k.refuse("formatted", api.ErrFormat)
}

// refuse asks that Format answers an error, and writes nothing.
func (k *run) refuse(what string, want api.Errno) {
	k.t.Helper()
	at := k.stands()
	if err := mount.Format(k.d, k.r, k.l); err != want {
		k.t.Fatalf("%s: Format = %d; want %d", what, err, want)
	}
	k.unread(what+": Format", at)
}

// spoil writes blocks over, or lays an older image over all of them: what is mounted then shows nothing but what is committed.
func (k *run) spoil() {
	k.t.Helper()
	needed, right := k.needed(), k.d.Image()
	image := slices.Clone(right)
	switch k.rand.IntN(3) {
	case 0:
		image = slices.Clone(k.images[k.rand.IntN(len(k.images))])
	case 1:
		old := k.images[k.rand.IntN(len(k.images))]
		for at := range image {
			if k.rand.IntN(8) == 0 {
				image[at] = old[at]
			}
		}
	default:
		used := k.mount(0).Room().List(api.RoomUsed)
		for range 1 + k.rand.IntN(3) {
			image[used[k.rand.IntN(len(used))]] = right[k.rand.IntN(len(right))]
		}
	}
	k.ok(k.d.Load(image))
	k.spoilt++
	if slices.ContainsFunc(needed, func(at uint32) bool { return image[at] != right[at] }) {
		k.refused++
		peek := k.peek(image, right)
		k.unmounted("spoilt", api.ErrTampered, peek, k.roots[len(k.roots)-1])
	} else {
		s := k.mount(k.cached())
		k.showsOrTampered("spoilt", s, k.was)
		if s.Root() != k.roots[len(k.roots)-1] {
			k.t.Fatalf("spoilt the root is %+v", s.Root())
		}
	}
	k.ok(k.d.Load(right))
	k.shows("laid back", k.mount(0), k.was)
}

func TestDrawn(t *testing.T) {
	t.Parallel()
	var all run
	for seed := range uint64(16) {
		blocks := []int{16, 24, 40, 64, 200, 1024, 1025, 2049}[seed%8]
		k := drawnFormat(t, rand.New(rand.NewPCG(seed, 24)), blocks)
		for range 20 {
			k.step()
			k.spoil()
		}
		if _, _, both := k.l.Collision(); both {
			t.Fatal("the log has a collision")
		}
		all.commits += k.commits
		all.dropped += k.dropped
		all.full += k.full
		all.cuts += k.cuts
		all.spoilt += k.spoilt
		all.refused += k.refused
	}
	t.Logf("%d commits, %d dropped, %d full, %d cuts; of %d spoilt disks %d were refused", all.commits, all.dropped, all.full, all.cuts, all.spoilt, all.refused)
	if min(all.commits, all.dropped, all.full, all.cuts, all.refused, all.spoilt-all.refused) < 20 {
		t.Error("some of all that may be drawn is too seldom")
	}
}

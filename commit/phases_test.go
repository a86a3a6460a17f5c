package commit_test

import (
	"maps"
	"slices"
	"testing"

	"signet/api"
)

// 21.4, 21.6

// All scenes, committed, with caches of several sizes: what k.commit asks holds of each.
func TestCommits(t *testing.T) {
	for _, c := range scenes() {
		for _, cached := range []int{0, 1, 5, 4096} {
			k := c.set(t, cached)
			many := newOf(k.was, k.now, c.blocks)
			if many == 0 {
				t.Fatalf("%s: nothing is new", c.name)
			}
			k.commit()
			if got := k.r.Swings(); got != int(k.s.Slot().Counter) || !k.r.Was(k.s.Slot()) {
				t.Errorf("%s: %d swings, and the slot %v", c.name, got, k.s.Slot())
			}
			// It goes on, and so does one that is mounted now.
			other := mounted(t, k.d, k.r, cached)
			k.same(c.name+", mounted anew", told{slot: other.s.Slot(), root: other.s.Root(), stamp: other.s.Stamp(), inodes: k.s.Inodes(), cache: k.s.Cache(), used: other.s.Room().List(api.RoomUsed), free: other.s.Room().Count(api.RoomFree)}, tell(k.s))
			other.holds(c.name + ", mounted anew")
			if c.blocks > 16 {
				k.make(file, 1)
			}
			k.touch(1)
			k.commit()
		}
	}
}

// At once behind a commit there is nothing to do.
func TestCommitTwice(t *testing.T) {
	for _, c := range scenes() {
		for _, cached := range []int{0, 4096} {
			k := c.set(t, cached)
			k.commit()
			ahead, raw, image := tell(k.s), len(k.d.Log()), k.d.Image()
			for range 3 {
				if err := k.s.Commit(); err != api.OK {
					t.Fatalf("%s: Commit = %d", c.name, err)
				}
			}
			if len(k.d.Log()) != raw || !slices.Equal(k.d.Image(), image) {
				t.Errorf("%s: something was done at once behind a commit", c.name)
			}
			k.same(c.name, tell(k.s), ahead)
		}
	}
}

// All of the map's blocks are new at each commit, and so is the root block; what they were is free from then on.
func TestTheMapIsNew(t *testing.T) {
	for _, c := range scenes() {
		k := c.set(t, 0)
		s, image := k.s.Slot(), k.d.Image()
		old := mapAndRoot(t, image, s)
		if len(old) != mapBlocks(c.blocks)+1 {
			t.Fatalf("%s: the map and the root have %d blocks", c.name, len(old))
		}
		k.commit()
		young := mapAndRoot(t, k.d.Image(), k.s.Slot())
		m := k.s.Room()
		for at := range old {
			if young[at] {
				t.Errorf("%s: the block %d is kept", c.name, at)
			}
			if m.State(at) != api.RoomFree {
				t.Errorf("%s: the block %d is not free", c.name, at)
			}
		}
	}
}

// mapAndRoot is the blocks of the map and of the root.
func mapAndRoot(t *testing.T, image []api.Block, s api.Slot) map[uint32]bool {
	t.Helper()
	r := &reader{t, image, map[uint32]bool{}, map[uint32]bool{}}
	r.readMap(rootOf(r.block(s.Root)))
	return r.used
}

// Blocks that did not change are where they were.
func TestWhatIsKept(t *testing.T) {
	k := scene{"", 64, scattered, some, func(k *system) { k.set(3, 5, full(55)) }}.set(t, 0)
	used, image := k.used(), k.d.Image()
	k.commit()
	kept := 0
	for at := range k.used() {
		if used[at] {
			kept++
			if k.d.Image()[at] != image[at] {
				t.Errorf("the block %d is kept, and another one", at)
			}
		}
	}
	// All but a leaf, the two nodes above it, a leaf of the table and its node, the map and the root block.
	if want := len(used) - 7; kept != want {
		t.Errorf("%d blocks are kept; want %d", kept, want)
	}
}

// No block that the committed tree uses is written from one swing to the next, over many commits and others that failed; and behind each of them the tree ahead of it is whole still.
func TestNothingUsedIsWritten(t *testing.T) {
	k := made(t, 40, 2, scattered)
	k.make(file, 3)
	var ahead []api.Slot
	for i := range 60 {
		n := 2 + i%3
		k.size(n, 256*(1+i*7%6))
		k.set(n, 0, full(i))
		before, image := k.s.Slot(), k.d.Image()
		old, _, used := whole(t, image, before)
		wear := k.d.Wear()
		err := k.s.Fits()
		if err == api.OK {
			k.commit()
			ahead = append(ahead, before)
		} else if got := k.s.Commit(); got != err {
			t.Fatalf("Commit = %d; Fits = %d", got, err)
		}
		for at := range used {
			if k.d.Wear()[at] != wear[at] {
				t.Fatalf("the block %d is used, and was written", at)
			}
		}
		if f, _, _ := whole(t, k.d.Image(), before); !maps.Equal(f, old) {
			t.Fatalf("the tree ahead of the commit %d is another one behind it", i)
		}
	}
	if len(ahead) < 30 {
		t.Errorf("only %d commits", len(ahead))
	}
}

// A commit whose blocks were all kept reads nothing raw, and one on a cache without room reads only what is used.
func TestWhatIsRead(t *testing.T) {
	for _, c := range scenes() {
		k := c.set(t, 4096)
		from := k.d.Ops()
		many := newOf(k.was, k.now, c.blocks)
		if err := k.s.Commit(); err != api.OK {
			t.Fatalf("%s: Commit = %d", c.name, err)
		}
		if reads := k.d.Ops() - from - many; reads != 0 {
			t.Errorf("%s: %d raw reads of what is kept", c.name, reads)
		}
		k = c.set(t, 0)
		used, raw := k.used(), len(k.d.Log())
		k.ok(k.s.Commit())
		for _, e := range k.d.Log()[raw:] {
			if e.Kind == api.RawRead && !used[uint32(e.At)] {
				t.Errorf("%s: the block %d is read, and not used", c.name, e.At)
			}
		}
	}
}

// What a commit writes is in the log of the cache, so that a collision would be found there.
func TestWhatIsLogged(t *testing.T) {
	for _, c := range scenes() {
		k := c.set(t, 0)
		raw := len(k.d.Log())
		k.ok(k.s.Commit())
		for _, e := range k.d.Log()[raw:] {
			if e.Kind == api.RawWrite && !k.log.Has(api.TagBlock, string(e.Data[:])) {
				t.Errorf("%s: the block %d is not in the log", c.name, e.At)
			}
		}
	}
}

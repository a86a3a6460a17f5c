package commit_test

import (
	"testing"

	"signet/api"
	"signet/inodes"
)

// 21.3

// news asks how many blocks would be new, and whether they fit.
func (k *system) news(want int) {
	k.t.Helper()
	if n, err := k.s.New(); n != want || err != api.OK {
		k.t.Fatalf("New = %d, %d; want %d", n, err, want)
	}
	if many := newOf(k.was, k.now, k.d.Blocks()); many != want {
		k.t.Fatalf("%d would be new; want %d", many, want)
	}
	fits := api.OK
	if k.s.Root().Used+want > k.d.Blocks()-1 {
		fits = api.ErrNoSpace
	}
	if err := k.s.Fits(); err != fits {
		k.t.Fatalf("Fits = %d; want %d", err, fits)
	}
}

// Written out: what is new of the inodes, the map's blocks, and the root block.
func TestNews(t *testing.T) {
	for _, d := range disks {
		k := made(t, d.blocks, 0, scattered)
		k.news(0)
		k.touch(1)
		k.news(0 + 1 + d.mapped + 1)
		k.make(file, 2)
		k.news(0 + 1 + d.mapped + 1)
		k.size(2, 1024)
		k.news(0 + 1 + d.mapped + 1)
		k.set(2, 3, full(1))
		k.news(2 + 1 + d.mapped + 1)
		k.make(file, 2)
		k.news(2 + 3 + d.mapped + 1)
		k.drop(2)
		k.news(0 + 3 + d.mapped + 1)
		k.commit()
		k.news(0)
	}
}

// What was changed and changed back is not new, and neither is what is gone alone.
func TestNothingNew(t *testing.T) {
	k := scene{"", 64, scattered, some, func(*system) {}}.set(t, 0)
	nothing := func(what string, do func(x *inodes.Inodes) api.Errno) {
		t.Helper()
		x := k.s.Inodes().Clone()
		k.ok(k.s.Keep(x), do(x))
		if n, err := k.s.New(); n != 0 || err != api.OK {
			t.Errorf("%s New = %d, %d; want 0", what, n, err)
		}
		if err := k.s.Fits(); err != api.OK {
			t.Errorf("%s Fits = %d", what, err)
		}
		ahead, from := tell(k.s), len(k.d.Log())
		if err := k.s.Commit(); err != api.OK {
			t.Errorf("%s Commit = %d", what, err)
		}
		k.untouched(what, from)
		k.same(what, tell(k.s), ahead)
	}
	nothing("of nothing", func(*inodes.Inodes) api.Errno { return api.OK })
	nothing("of a leaf as it was", func(x *inodes.Inodes) api.Errno { return x.Set(3, 5, full(305), 2) })
	nothing("of a leaf that was another one", func(x *inodes.Inodes) api.Errno {
		k.ok(x.Set(3, 5, full(1), 9))
		return x.Set(3, 5, full(305), 2)
	})
	nothing("of an inode that was made and dropped", func(x *inodes.Inodes) api.Errno {
		n, err := x.Make(file, 3)
		k.ok(err)
		return x.Drop(n)
	})
}

// Where inodes are gone, and no block would be new, nothing is done: New is 0.
func TestOnlyGone(t *testing.T) {
	k := made(t, 64, 0, scattered)
	k.make(file, 4)
	k.commit()
	k.drop(5)
	k.news(0)
	ahead, from := tell(k.s), len(k.d.Log())
	k.ok(k.s.Commit())
	k.untouched("where inodes are gone alone", from)
	k.same("where inodes are gone alone", tell(k.s), ahead)
	k.holds("where inodes are gone alone")
	k.touch(1)
	k.commit()

	k.drop(1, 2, 3, 4)
	k.news(0)
	from = len(k.d.Log())
	k.ok(k.s.Commit())
	k.untouched("where all inodes are gone", from)
}

// A working tree that just fits, and one that is a block too great.
func TestJustFits(t *testing.T) {
	// With 6 leaves: 3 used, and 6 leaves, 3 nodes, the table's leaf, the map and the root block: 15.
	k := made(t, 16, 0, scattered)
	k.make(file, 1)
	k.fill(2, 7)
	k.news(13)
	ahead, from := tell(k.s), len(k.d.Log())
	if err := k.s.Commit(); err != api.ErrNoSpace {
		t.Fatalf("Commit of a block too much = %d; want ErrNoSpace", err)
	}
	k.untouched("of a block too much", from)
	k.same("of a block too much", tell(k.s), ahead)
	k.holds("of a block too much")
	k.size(2, 6*256)
	k.news(12)
	k.commit()
	if used := k.s.Root().Used; used != 12 {
		t.Fatalf("%d blocks are used; want 12", used)
	}
	// 12 used, and the table's leaf, the map and the root block: 15. With a leaf and its two nodes it would be 18.
	k.touch(2)
	k.news(3)
	if err := k.s.Fits(); err != api.OK {
		t.Fatalf("Fits = %d", err)
	}
	k.commit()
	k.set(2, 0, full(9))
	k.news(6)
	if err := k.s.Commit(); err != api.ErrNoSpace {
		t.Fatalf("Commit = %d; want ErrNoSpace", err)
	}
	// To take away what is too much, there is room, too, where it needs no more than that.
	k.drop(2)
	k.touch(1)
	k.news(3)
	k.commit()
	if used := k.s.Root().Used; used != 3 {
		t.Fatalf("%d blocks are used; want 3", used)
	}
}

// The greatest file that fits, for disks of many sizes.
func TestTheGreatestThatFits(t *testing.T) {
	for blocks := 16; blocks <= 64; blocks++ {
		for _, cached := range []int{0, 16} {
			k := made(t, blocks, cached, atTheEnd)
			k.make(file, 1)
			leaves := 1
			for k.s.Fits() == api.OK {
				k.news(newOf(k.was, k.now, blocks))
				k.fill(2, leaves)
				leaves++
			}
			if k.s.Root().Used+newOf(k.was, k.now, blocks) <= blocks-1 {
				t.Fatalf("of %d blocks %d leaves fit, but Fits says no", blocks, leaves-1)
			}
			if err := k.s.Commit(); err != api.ErrNoSpace {
				t.Fatalf("Commit = %d", err)
			}
			k.size(2, 256*(leaves-2))
			k.commit()
			k.news(0)
		}
	}
}

// 21.6, T7: once it fits, it always does, and as many blocks stay used.
func TestOneBlockOverAndOver(t *testing.T) {
	for _, c := range []struct{ blocks, leaves, times int }{{16, 1, 400}, {16, 3, 100}, {24, 7, 100}, {1025, 200, 20}} {
		k := made(t, c.blocks, 3, atTheEnd)
		k.make(file, 1)
		k.fill(2, c.leaves)
		k.commit()
		used := k.s.Root().Used
		for i := range c.times {
			k.set(2, i%c.leaves, full(1000+i))
			k.commit()
			if k.s.Root().Used != used {
				t.Fatalf("%d blocks are used; %d were", k.s.Root().Used, used)
			}
		}
		if k.s.Slot().Counter != uint64(c.times+2) || k.r.Swings() != c.times+2 {
			t.Errorf("the counter is %d, of %d swings", k.s.Slot().Counter, k.r.Swings())
		}
	}
}

// The errors of inodes.New are those of New, Fits and Commit, with nothing beside them.
func TestErrorsOfReading(t *testing.T) {
	told := 0
	for _, c := range scenes() {
		k := c.set(t, 0)
		image, base := k.d.Image(), k.s.Inodes()
		for _, at := range k.s.Room().List(api.RoomUsed) {
			k.d.Write(int(at), junk())
			_, want := base.Clone().New()
			many := newOf(k.was, k.now, c.blocks)
			if want != api.OK {
				many = 0
				told++
			}
			k.ok(k.s.Keep(base.Clone()))
			ahead, from := tell(k.s), len(k.d.Log())
			if n, err := k.s.New(); n != many || err != want {
				t.Errorf("%s: New = %d, %d; want %d, %d", c.name, n, err, many, want)
			}
			k.ok(k.s.Keep(base.Clone()))
			if err := k.s.Fits(); err != want {
				t.Errorf("%s: Fits = %d; want %d", c.name, err, want)
			}
			k.ok(k.s.Keep(ahead.inodes))
			if want != api.OK {
				if err := k.s.Commit(); err != want {
					t.Errorf("%s: Commit = %d; want %d", c.name, err, want)
				}
			}
			k.same(c.name, tell(k.s), ahead)
			k.untouched(c.name, from)
			k.d.Load(image)
		}
		k.ok(k.s.Keep(base))
		k.commit()
	}
	if told < 10 {
		t.Errorf("only %d blocks had to be read", told)
	}
}

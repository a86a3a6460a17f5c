package commit_test

import (
	"maps"
	"slices"
	"testing"

	"signet/api"
	"signet/digest"
	"signet/room"
)

// 21.4, and T1, T3, T5 as far as a commit goes

// course is what a commit of a scene does on a quiet disk.
type course struct {
	reads, steps int
	writes       []api.Raw
	slot         api.Slot
}

// quiet is a scene's course.
func (c scene) quiet(t *testing.T, cached int) course {
	t.Helper()
	k := c.set(t, cached)
	from, ops := len(k.d.Log()), k.d.Ops()
	k.ok(k.s.Commit())
	q := course{steps: k.d.Ops() - ops, slot: k.s.Slot()}
	for _, e := range k.d.Log()[from:] {
		if e.Kind == api.RawRead {
			q.reads++
		} else {
			q.writes = append(q.writes, e)
		}
	}
	return q
}

// harm is what the adversary does ahead of a raw step.
type harm struct {
	name string
	plan func(k *system, op int) []api.Step
}

// over is the steps that make each of these blocks another one.
func over(op int, blocks []uint32, b func(at int) api.Block) []api.Step {
	var plan []api.Step
	for _, at := range blocks {
		plan = append(plan, api.Step{Op: op, Kind: api.StepBlock, At: int(at), Data: b(int(at))})
	}
	return plan
}

// harms is what may be done to all blocks, and to each of the used ones alone.
func harms(used []uint32) []harm {
	l := []harm{
		{"all junk", func(k *system, op int) []api.Step {
			return over(op, used, func(int) api.Block { return junk() })
		}},
		{"all zeros", func(k *system, op int) []api.Step {
			return over(op, used, func(int) api.Block { return api.Block{} })
		}},
		{"all one block on", func(k *system, op int) []api.Step {
			image := k.d.Image()
			return over(op, used, func(at int) api.Block { return image[(at+1)%len(image)] })
		}},
		{"a bit of each", func(k *system, op int) []api.Step {
			image := k.d.Image()
			return over(op, used, func(at int) api.Block {
				image[at][at%256] ^= 4
				return image[at]
			})
		}},
		{"all as at first", func(k *system, op int) []api.Step {
			return []api.Step{{Op: op, Kind: api.StepAll, Back: 0}}
		}},
	}
	for _, at := range used {
		l = append(l, harm{"one junk", func(k *system, op int) []api.Step {
			return over(op, []uint32{at}, func(int) api.Block { return junk() })
		}})
	}
	return l
}

// Blocks of the committed tree are written over ahead of each raw read of a commit: it answers that ahead of the first write, and nothing is changed, or it is as ever.
func TestWrittenOverAheadOfEachRead(t *testing.T) {
	t.Parallel()
	tampered, right := 0, 0
	for _, c := range scenes() {
		for _, cached := range []int{0, 4} {
			if c.blocks > 64 && (c.blocks != 1025 || cached > 0) {
				continue
			}
			q := c.quiet(t, cached)
			all := harms(c.set(t, cached).s.Room().List(api.RoomUsed))
			for step := range q.reads {
				for _, h := range all {
					if c.harmed(t, cached, q, step, h) == api.OK {
						right++
					} else {
						tampered++
					}
				}
			}
		}
	}
	if tampered < 500 || right < 500 {
		t.Errorf("%d commits told it, %d were as ever", tampered, right)
	}
}

// harmed commits a scene with something done ahead of a raw step, and asks that all is as it must be.
func (c scene) harmed(t *testing.T, cached int, q course, step int, h harm) api.Errno {
	t.Helper()
	k := c.set(t, cached)
	image, ahead, from := k.d.Image(), tell(k.s), len(k.d.Log())
	k.d.Plan(h.plan(k, k.d.Ops()+step))
	err := k.s.Commit()
	k.d.Plan(nil)
	switch err {
	case api.OK:
		var writes []api.Raw
		for _, e := range k.d.Log()[from:] {
			if e.Kind != api.RawRead {
				writes = append(writes, e)
			}
		}
		if !slices.Equal(writes, q.writes) || k.s.Slot() != q.slot {
			t.Fatalf("%s, %s ahead of the raw step %d: another commit", c.name, h.name, step)
		}
		return err
	case api.ErrTampered:
	default:
		t.Fatalf("%s, %s ahead of the raw step %d: Commit = %d", c.name, h.name, step, err)
	}
	k.untouched(c.name+", "+h.name, from)
	k.same(c.name+", "+h.name, tell(k.s), ahead)
	if s, _ := k.r.Read(); s != ahead.slot {
		t.Fatalf("%s, %s: the register has swung", c.name, h.name)
	}
	k.d.Load(image)
	k.holds(c.name + ", " + h.name + ", laid back,")
	k.commit()
	return err
}

// Ahead of its writes nothing is read any more: whatever is written over then, the commit is as ever.
func TestWrittenOverAheadOfEachWrite(t *testing.T) {
	t.Parallel()
	for _, c := range scenes() {
		if c.blocks > 64 {
			continue
		}
		q := c.quiet(t, 0)
		for step := q.reads; step < q.steps; step++ {
			for _, h := range harms(c.set(t, 0).s.Room().List(api.RoomUsed)) {
				if err := c.harmed(t, 0, q, step, h); err != api.OK {
					t.Fatalf("%s, %s ahead of the raw step %d: Commit = %d", c.name, h.name, step, err)
				}
			}
		}
	}
}

// The root block and the map are needed when a system is mounted, and by no commit: not by the first behind that, and by none later.
func TestTheMapIsNotNeeded(t *testing.T) {
	for _, c := range scenes() {
		q := c.quiet(t, 0)
		k := made(t, c.blocks, 0, c.where)
		if c.first != nil {
			c.first(k)
			k.commit()
		}
		k = mounted(t, k.d, k.r, 0)
		c.then(k)
		for range 3 {
			for at := range mapAndRoot(t, k.d.Image(), k.s.Slot()) {
				k.d.Write(int(at), junk())
			}
			k.commit()
			if k.s.Slot().Counter == q.slot.Counter && k.s.Slot() != q.slot {
				t.Errorf("%s: another commit", c.name)
			}
			k.touch(1)
		}
	}
}

// What changes is needed, from the table's root to it, and nothing else.
func TestWhatIsNeeded(t *testing.T) {
	k := scene{"", 64, scattered, some, func(*system) {}}.set(t, 0)
	refs := map[at]uint32{}
	image := k.d.Image()
	root := rootOf(image[k.s.Slot().Root.At])
	table := image[root.Table.Root.At]
	refs[at{0, 1, 0}] = root.Table.Root.At
	for i := range 2 {
		refs[at{0, 0, i}] = refAt(table[8+36*i:]).At
	}
	third := image[refs[at{0, 0, 0}]]
	refs[at{3, 2, 0}] = refAt(third[128+24:]).At
	top := image[refs[at{3, 2, 0}]]
	for i := range 2 {
		refs[at{3, 1, i}] = refAt(top[8+36*i:]).At
	}
	needs := []uint32{refs[at{0, 1, 0}], refs[at{0, 0, 0}], refs[at{3, 2, 0}], refs[at{3, 1, 1}]}
	for _, block := range k.s.Room().List(api.RoomUsed) {
		p, f := partsOf(t, k.d, k.r, nil, 0)
		s, err := p.state()
		k.ok(err)
		o := &system{t: t, d: k.d, r: k.r, s: s, was: f, now: f}
		o.d.Write(int(block), junk())
		err = s.Inodes().Set(3, 5, full(55), 3)
		if err == api.OK {
			err = s.Fits()
		}
		want := api.OK
		if slices.Contains(needs, block) {
			want = api.ErrTampered
		}
		if err != want {
			t.Errorf("with the block %d written over: %d; want %d", block, err, want)
		}
		k.d.Load(image)
	}
}

// Where the map can't be read when the state is made, a commit tries it again, ahead of its first write.
func TestAMapThatCannotBeRead(t *testing.T) {
	for _, blocks := range []int{1025, 4097, 8192} {
		k := scene{"", blocks, atTheEnd, some, func(*system) {}}.set(t, 0)
		image := k.d.Image()
		for _, broken := range []func(){
			func() { k.d.Load(make([]api.Block, blocks)) },
			func() { k.d.Write(int(rootOf(image[k.s.Slot().Root.At]).Map.Root.At), junk()) },
			k.dies,
		} {
			p, f := partsOf(t, k.d, k.r, nil, 0)
			broken()
			s, err := p.state()
			k.ok(err)
			o := &system{t: t, d: k.d, r: k.r, s: s, was: f, now: maps.Clone(f)}
			o.d.Revive()
			o.d.Load(image)
			o.set(2, 0, full(99))
			o.d.Write(int(p.root.Map.Root.At), junk())
			ahead, from := tell(s), len(o.d.Log())
			if n, err := s.New(); n != newOf(o.was, o.now, blocks) || err != api.OK {
				t.Errorf("New = %d, %d", n, err)
			}
			if err := s.Commit(); err != api.ErrTampered {
				t.Errorf("Commit with a map that can't be read = %d; want ErrTampered", err)
			}
			o.untouched("with a map that can't be read", from)
			o.same("with a map that can't be read", tell(s), ahead)
			o.d.Load(image)
			o.commit()
			image, k.s = o.d.Image(), s
		}
	}
}

// A root whose map is no tree of nodes, by its digests, can't be told from what a collision makes: it is told ahead of the first write.
func TestAMapThatIsNone(t *testing.T) {
	p := standing(t, 1025)
	d := p.c.Disk()
	free := p.m.List(api.RoomFree)[100]
	d.Write(int(free), junk())
	p.root.Map.Root = api.Ref{At: free, Sum: sumOf(junk())}
	s, err := p.state()
	k := &system{t: t, d: d, r: p.r, s: s}
	k.ok(err, s.Inodes().Touch(1, 9))
	ahead, from := tell(s), len(d.Log())
	if err := s.Commit(); err != api.ErrNode {
		t.Errorf("Commit = %d; want ErrNode", err)
	}
	k.untouched("with a map that is none", from)
	k.same("with a map that is none", tell(s), ahead)
}

// A room that says other blocks than are used: what goes can't be let go, which is told ahead of the first write.
func TestARoomOfOtherBlocks(t *testing.T) {
	p := standing(t, 64)
	d := p.c.Disk()
	for _, gone := range []uint32{p.slot.Root.At, p.root.Map.Root.At, p.root.Table.Root.At} {
		q, _ := partsOf(t, d, p.r, digest.NewLog(), 0)
		used := slices.DeleteFunc(p.m.List(api.RoomUsed), func(at uint32) bool { return at == gone })
		used = append(used, p.m.List(api.RoomFree)[30])
		q.m, _, _ = room.New(64, used)
		s, err := q.state()
		k := &system{t: t, d: d, r: p.r, s: s}
		k.ok(err, s.Inodes().Touch(1, 9))
		ahead, from := tell(s), len(d.Log())
		if err := s.Commit(); err != api.ErrBlock {
			t.Errorf("Commit = %d; want ErrBlock", err)
		}
		k.untouched("with another room", from)
		k.same("with another room", tell(s), ahead)
	}
}

// T5: no older image of the disk makes another tree.
func TestOlderImages(t *testing.T) {
	for _, cached := range []int{0, 6} {
		k := made(t, 64, cached, scattered)
		k.make(file, 2)
		k.fill(2, 5)
		var images [][]api.Block
		for i := range 8 {
			images = append(images, k.d.Image())
			k.set(2, i%5, full(500+i))
			k.commit()
		}
		now := k.d.Image()
		for _, image := range images {
			k.d.Load(image)
			k.s.Cache().Clear()
			ahead, from := tell(k.s), len(k.d.Log())
			k.ok(k.s.Keep(k.s.Inodes().Clone()))
			ahead.inodes = k.s.Inodes()
			err := k.s.Inodes().Set(2, 0, full(999), k.s.Stamp())
			if err == api.OK {
				err = k.s.Commit()
			}
			if err != api.ErrTampered {
				t.Fatalf("Commit on an older image = %d; want ErrTampered", err)
			}
			k.untouched("on an older image", from)
			k.same("on an older image", tell(k.s), ahead)
			k.d.Load(now)
		}
	}
}

// What another disk has at the same places makes no other commit.
func TestAnotherDisk(t *testing.T) {
	other := scene{"", 64, scattered, some, func(*system) {}}.set(t, 0)
	k := scene{"", 64, scattered, func(k *system) { some(k); k.set(3, 5, full(1)) }, func(k *system) { k.set(3, 5, full(2)) }}.set(t, 0)
	image, from, ahead := k.d.Image(), len(k.d.Log()), tell(k.s)
	k.d.Load(other.d.Image())
	if err := k.s.Commit(); err != api.ErrTampered {
		t.Errorf("Commit on another disk's blocks = %d; want ErrTampered", err)
	}
	k.untouched("on another disk's blocks", from)
	k.same("on another disk's blocks", tell(k.s), ahead)
	k.d.Load(image)
	k.commit()
}

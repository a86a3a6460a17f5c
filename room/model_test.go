package room_test

import (
	"math/rand/v2"
	"slices"
	"testing"

	"signet/api"
	"signet/room"
)

// 12.6

// What Take tells was free, and is told no more, until it is let go.
func TestTakeTellsWhatWasFreeOnce(t *testing.T) {
	c := chance(3)
	for _, blocks := range []int{16, 65, 300, 1025} {
		r, p := byChance(t, c, blocks)
		mine := map[uint32]bool{}
		for at, state := range p {
			mine[uint32(at)] = state == api.RoomTaken
		}
		for range 4 * blocks {
			if taken := r.List(api.RoomTaken); len(taken) > 0 && c.IntN(3) == 0 {
				at := taken[c.IntN(len(taken))]
				lets(t, r, at)
				mine[at] = false
				continue
			}
			was := r.Copy()
			at, err := r.Take()
			if err != api.OK {
				continue
			}
			if mine[at] || was.State(at) != api.RoomFree || r.State(at) != api.RoomTaken {
				t.Fatalf("Take = %d, which was %d and is %d", at, was.State(at), r.State(at))
			}
			mine[at] = true
		}
	}
}

// What is used is never told by Take ahead of a Let and a Swing.
func TestTakeTellsNothingThatIsUsed(t *testing.T) {
	c := chance(4)
	for _, blocks := range []int{16, 64, 200, 1030} {
		r, p := byChance(t, c, blocks)
		r.Swing()
		p.swing()
		for range 6 {
			committed := r.List(api.RoomUsed)
			for range blocks {
				if c.IntN(2) == 0 {
					r.Let(uint32(c.IntN(blocks)))
				}
				if at, err := r.Take(); err == api.OK && slices.Contains(committed, at) {
					t.Fatalf("Take = %d, which the committed tree uses", at)
				}
			}
			r.Swing()
		}
	}
}

func TestCountsOfAllStatesAreTheBlocks(t *testing.T) {
	c := chance(5)
	for _, blocks := range numbers {
		r, _ := byChance(t, c, blocks)
		for _, step := range []func(){func() {}, r.Swing, r.Back} {
			step()
			many := 0
			for _, state := range states {
				many += r.Count(state)
			}
			if many != blocks {
				t.Errorf("all counts are %d of %d blocks", many, blocks)
			}
		}
	}
}

func TestLoadOfLeavesIsTheRoomBehindASwing(t *testing.T) {
	c := chance(6)
	for _, blocks := range numbers {
		r, p := byChance(t, c, blocks)
		loaded, err := room.Load(blocks, r.Leaves())
		if err != api.OK {
			t.Fatal(err)
		}
		holds(t, "whose leaves were told", r, p)
		r.Swing()
		p.swing()
		holds(t, "that was loaded", loaded, p)
		holds(t, "behind a swing", r, p)
	}
}

func TestBackIsTheRoomAsItWas(t *testing.T) {
	c := chance(7)
	for _, blocks := range numbers {
		r, p := byChance(t, c, blocks)
		r.Swing()
		p.swing()
		for range blocks {
			r.Take()
			r.Let(uint32(c.IntN(blocks)))
		}
		r.Back()
		holds(t, "behind a way back", r, p)
	}
}

// walk is a room, its plain one, and what chooses the calls.
type walk struct {
	t *testing.T
	c *rand.Rand
	r *room.Room
	p plain
}

// take takes a block from both.
func (w *walk) take() {
	free := w.p.list(api.RoomFree)
	at, err := w.r.Take()
	if len(free) == 0 {
		if at != 0 || err != api.ErrNoSpace {
			w.t.Fatalf("Take = %d, %d; want ErrNoSpace", at, err)
		}
		return
	}
	if at != free[0] || err != api.OK {
		w.t.Fatalf("Take = %d, %d; want %d", at, err, free[0])
	}
	w.p[at] = api.RoomTaken
}

// let lets a block go by chance, of both.
func (w *walk) let() {
	at := w.c.IntN(len(w.p) + 2)
	next, can := api.RoomNone, false
	if at < len(w.p) {
		next, can = let(w.p[at])
	}
	err := w.r.Let(uint32(at))
	if (err == api.OK) != can || !can && err != api.ErrBlock {
		w.t.Fatalf("Let(%d) = %d", at, err)
	}
	if can {
		w.p[at] = next
	}
}

// takeMany takes some blocks, or more than there are.
func (w *walk) takeMany() {
	free := w.p.list(api.RoomFree)
	n := w.c.IntN(len(free) + 3)
	if w.c.IntN(2) == 0 {
		n = min(n, 4)
	}
	l, err := w.r.TakeMany(n)
	if n > len(free) {
		if len(l) != 0 || err != api.ErrNoSpace {
			w.t.Fatalf("TakeMany(%d) = %v, %d; want ErrNoSpace", n, l, err)
		}
		return
	}
	if err != api.OK || !slices.Equal(l, free[:n]) {
		w.t.Fatalf("TakeMany(%d) = %v, %d; want %v", n, l, err, free[:n])
	}
	for _, at := range l {
		w.p[at] = api.RoomTaken
	}
}

// letAll lets some blocks go, now and then one among them that can't be.
func (w *walk) letAll() {
	l := slices.Concat(w.p.list(api.RoomUsed), w.p.list(api.RoomTaken))
	w.c.Shuffle(len(l), func(i, j int) { l[i], l[j] = l[j], l[i] })
	l = l[:w.c.IntN(len(l)+1)]
	if w.c.IntN(3) == 0 {
		l = slices.Insert(l, w.c.IntN(len(l)+1), uint32(w.c.IntN(len(w.p)+1)))
	}
	next, want, wantErr := slices.Clone(w.p), 0, api.OK
	for place, at := range l {
		ok := int(at) < len(next)
		if ok {
			next[at], ok = let(next[at])
		}
		if !ok {
			next, want, wantErr = w.p, place, api.ErrBlock
			break
		}
	}
	if place, err := w.r.LetAll(l); place != want || err != wantErr {
		w.t.Fatalf("LetAll(%v) = %d, %d; want %d, %d", l, place, err, want, wantErr)
	}
	w.p = next
}

func (w *walk) step() {
	switch w.c.IntN(20) {
	case 0:
		w.r.Swing()
		w.p.swing()
	case 1:
		w.r.Back()
		w.p.back()
	case 2:
		w.r = w.r.Copy()
	case 3:
		w.takeMany()
	case 4:
		w.letAll()
	case 5, 6, 7, 8, 9, 10, 11:
		w.take()
	default:
		w.let()
	}
}

// Runs of calls by chance, each held against the plain room.
func TestRunsOfCalls(t *testing.T) {
	c := chance(8)
	for _, blocks := range []int{16, 17, 40, 64, 65, 130, 1024, 1100} {
		r, p := byChance(t, c, blocks)
		w := &walk{t, c, r, p}
		for step := range 600 {
			w.step()
			if step%20 == 0 {
				holds(t, "in a run of calls", w.r, w.p)
			}
		}
		holds(t, "behind a run of calls", w.r, w.p)
	}
}

package file_test

import (
	"maps"
	"math"
	"math/rand"
	"slices"
	"testing"

	"signet/api"
	"signet/inodes"
)

// drawn is a run of calls that are drawn, on inodes and on the model.
type drawn struct {
	*stand
	r        *rand.Rand
	x        *inodes.Inodes
	m        model
	written  map[uint32]api.Block // what was written to the disk
	tampered bool                 // whether it may have been written over since
	right    int                  // how many answers were right
	refused  int                  // and how many calls refused to answer
}

// draws is a run with some files and a directory.
func draws(t *testing.T, seed int64, room int) *drawn {
	t.Helper()
	d := &drawn{stand: made(t, 8192, room), r: rand.New(rand.NewSource(seed)), m: model{}, written: map[uint32]api.Block{}}
	d.x = d.empty()
	put(t, d.x, d.m, api.KindDir, bytes(64, 1))
	for i := range 7 {
		put(t, d.x, d.m, api.KindFile, bytes(d.r.Intn(1200), i))
	}
	return d
}

// number is a number, mostly a file's.
func (d *drawn) number() int {
	if d.r.Intn(25) == 0 {
		return []int{-1, 0, 1, 9, api.MaxInodes, api.MaxInodes + 1, math.MinInt, math.MaxInt}[d.r.Intn(8)]
	}
	return 2 + d.r.Intn(7)
}

// place is a place or how many, mostly in a file or near its end.
func (d *drawn) place(n int) int {
	size := len(d.m[n].bytes)
	switch d.r.Intn(30) {
	case 0:
		return []int{-1, math.MinInt, math.MaxInt, api.MaxFile + 1}[d.r.Intn(4)]
	case 1, 2, 3:
		return size - 1 + d.r.Intn(3)
	case 4, 5, 6:
		return 256*d.r.Intn(6) - 1 + d.r.Intn(3)
	case 7, 8, 9, 10:
		return 256 * d.r.Intn(6)
	case 11, 12:
		return size + d.r.Intn(600)
	}
	return d.r.Intn(size + 1)
}

// text is a text, short or long, of zeros, of bytes that a file has, or of others.
func (d *drawn) text() string {
	many := d.r.Intn(20)
	switch d.r.Intn(6) {
	case 0:
		many = d.r.Intn(900)
	case 1:
		many = 256 * d.r.Intn(4)
	}
	switch d.r.Intn(4) {
	case 0:
		return zeros(many)
	case 1:
		f := d.m[2+d.r.Intn(7)]
		return f.cut(d.r.Intn(len(f.bytes)+1), many)
	}
	return bytes(many, d.r.Intn(100))
}

// call is any call.
func (d *drawn) call() call {
	n, to := d.number(), d.number()
	c := call{op: ops[d.r.Intn(len(ops))], n: n, at: d.place(n), many: d.place(n), to: to, place: d.place(to), s: d.text(), stamp: uint64(d.r.Intn(5))}
	if c.op == "Same" && d.r.Intn(3) == 0 {
		// Two that are drawn are rarely the same.
		c.to = n
	}
	return c
}

// step makes a call, which must be right, or told to be tampered with where that may be.
func (d *drawn) step() {
	d.t.Helper()
	c := d.call()
	e := maps.Clone(d.m)
	got, want := c.do(d.x), c.want(e)
	switch {
	case got == want:
		d.m = e
		d.right++
	case d.tampered && got == (answer{err: api.ErrTampered}):
		d.refused++
	default:
		d.t.Fatalf("%s = %s; want %s", c.brief(), got.brief(), want.brief())
	}
}

// short cuts files that have grown long.
func (d *drawn) short() {
	d.t.Helper()
	for n, f := range maps.Clone(d.m) {
		if len(f.bytes) > 5000 {
			check(d.t, d.x, d.m, call{op: "Truncate", n: n, many: d.r.Intn(1500), stamp: 3})
		}
	}
}

// commits commits what there is.
func (d *drawn) commits() {
	d.t.Helper()
	x, out := d.commit(d.x)
	d.x = x
	for _, w := range out.Writes {
		d.written[w.At] = w.Data
	}
}

// laidBack makes the disk again what was written.
func (d *drawn) laidBack() {
	d.t.Helper()
	d.d.Plan(nil)
	for _, at := range slices.Sorted(maps.Keys(d.written)) {
		d.over(at, d.written[at])
	}
	d.c.Clear()
	d.tampered = false
}

func TestDrawnCalls(t *testing.T) {
	for seed := range int64(6) {
		d := draws(t, seed, int(seed)*3)
		for i := range 1500 {
			d.step()
			if i%10 == 0 {
				holds(t, "drawn", d.x, d.m)
				d.short()
			}
			if d.r.Intn(60) == 0 {
				d.commits()
			}
		}
		holds(t, "behind all", d.x, d.m)
	}
}

// Blocks are written over between calls: each answer is right, or says so and has changed nothing.
func TestDrawnBlocksWrittenOver(t *testing.T) {
	right, refused := 0, 0
	for seed := range int64(10) {
		d := draws(t, 100+seed, int(seed)%3*4)
		for range 60 {
			d.short()
			d.commits()
			all := slices.Sorted(maps.Keys(d.written))
			for range 1 + d.r.Intn(8) {
				at := all[len(all)-1-d.r.Intn(min(len(all), 60))]
				b := d.written[all[d.r.Intn(len(all))]]
				if d.r.Intn(2) == 0 {
					b = junk()
				}
				d.over(at, b)
			}
			d.tampered = true
			for range 8 {
				d.step()
			}
			d.laidBack()
			holds(t, "laid back", d.x, d.m)
		}
		right, refused = right+d.right, refused+d.refused
	}
	if right < 500 || refused < 500 {
		t.Errorf("%d were right, %d refused", right, refused)
	}
}

// An adversary lays bytes, older ones among them, ahead of raw steps in the midst of calls.
func TestDrawnAdversaries(t *testing.T) {
	right, refused := 0, 0
	for seed := range int64(6) {
		d := draws(t, 200+seed, int(seed)%3*4)
		for range 40 {
			d.short()
			d.commits()
			d.d.Plan(d.plan())
			d.tampered = true
			for range 12 {
				d.step()
			}
			d.laidBack()
			holds(t, "laid back", d.x, d.m)
		}
		right, refused = right+d.right, refused+d.refused
	}
	if right < 300 || refused < 300 {
		t.Errorf("%d were right, %d refused", right, refused)
	}
}

// plan is what an adversary does at the next raw steps.
func (d *drawn) plan() []api.Step {
	var l []api.Step
	ops := d.d.Ops()
	for range 1 + d.r.Intn(12) {
		l = append(l, api.Step{
			Op:   ops + d.r.Intn(40),
			Kind: 1 + d.r.Intn(3),
			At:   max(1, int(d.next)-1-d.r.Intn(50)),
			Data: junk(),
			Back: d.r.Intn(ops),
		})
	}
	return l
}

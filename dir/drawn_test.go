package dir_test

import (
	"fmt"
	"maps"
	"math"
	"math/rand"
	"slices"
	"testing"

	"signet/api"
	"signet/inodes"
)

// drawn is a run of calls that are drawn, on inodes and on the model.
type drawn struct {
	*stand
	r        *rand.Rand
	x        *inodes.Inodes
	m        model
	written  map[uint32]api.Block // what was written to the disk
	tampered bool                 // whether it may have been written over since
	right    int                  // how many answers were right
	refused  int                  // and how many calls refused to answer
}

// draws is a run with some directories and a file.
func draws(t *testing.T, seed int64, room int) *drawn {
	t.Helper()
	d := &drawn{stand: made(t, 8192, room), r: rand.New(rand.NewSource(seed)), m: model{}, written: map[uint32]api.Block{}}
	d.x = d.empty()
	for range 5 {
		putDir(t, d.x, d.m, some(d.r.Intn(30)))
	}
	putFile(t, d.x, d.m, inBytes(some(5)))
	return d
}

// number is a number, mostly a directory's.
func (d *drawn) number() int {
	if d.r.Intn(25) == 0 {
		return []int{-1, 0, 6, 7, api.MaxInodes, api.MaxInodes + 1, math.MinInt, math.MaxInt}[d.r.Intn(8)]
	}
	return 1 + d.r.Intn(5)
}

// inode is an inode, mostly one that may be, and often one that several entries have.
func (d *drawn) inode() int {
	switch d.r.Intn(20) {
	case 0:
		return noNumbers[d.r.Intn(len(noNumbers))]
	case 1:
		return 1 + d.r.Intn(api.MaxInodes)
	}
	return 1 + d.r.Intn(15)
}

// text is a text, mostly a name that is there or was, for some calls a part of one or a pattern.
func (d *drawn) text(op string, n int) string {
	if d.r.Intn(20) == 0 {
		return noNames[d.r.Intn(len(noNames))]
	}
	s := fmt.Sprintf("%c%d", "abn"[d.r.Intn(3)], d.r.Intn(20))
	if l := d.m[n].entries; len(l) > 0 && d.r.Intn(2) == 0 && (op != "Add" || d.r.Intn(4) == 0) {
		s = l[d.r.Intn(len(l))].Name
	}
	switch op {
	case "Begins", "Page":
		s = s[:d.r.Intn(len(s)+1)]
	case "Matches":
		at := d.r.Intn(len(s))
		s = s[:at] + []string{"*", "?", "*?", "a"}[d.r.Intn(4)] + s[at+d.r.Intn(2):]
	}
	return s
}

// place is a place or how many, mostly in a directory or near its end.
func (d *drawn) place(n int) int {
	many := len(d.m[n].entries)
	switch d.r.Intn(10) {
	case 0:
		return []int{-1, math.MinInt, math.MaxInt, api.MaxEntries}[d.r.Intn(4)]
	case 1, 2:
		return many - 1 + d.r.Intn(3)
	}
	return d.r.Intn(many + 1)
}

// call is any call. Entries are added about as often as taken away, so that directories stay of some size.
func (d *drawn) call() call {
	n, op := d.number(), ops[d.r.Intn(len(ops))]
	if d.r.Intn(3) == 0 {
		op = []string{"Add", "Remove"}[d.r.Intn(2)]
	}
	return call{op: op, dir: n, s: d.text(op, n), inode: d.inode(), n: d.place(n), stamp: uint64(d.r.Intn(5))}
}

// step makes a call, which must be right, or told to be tampered with where that may be.
func (d *drawn) step() {
	d.t.Helper()
	c := d.call()
	e := maps.Clone(d.m)
	got, want := c.do(d.x), c.want(e)
	switch {
	case got == want:
		d.m = e
		d.right++
	case d.tampered && got == (answer{err: api.ErrTampered}):
		d.refused++
	default:
		d.t.Fatalf("%s = %s; want %s", c.brief(), got.brief(), want.brief())
	}
}

// commits commits what there is.
func (d *drawn) commits() {
	d.t.Helper()
	x, out := d.commit(d.x)
	d.x = x
	for _, w := range out.Writes {
		d.written[w.At] = w.Data
	}
}

// laidBack makes the disk again what was written.
func (d *drawn) laidBack() {
	d.t.Helper()
	d.d.Plan(nil)
	for _, at := range slices.Sorted(maps.Keys(d.written)) {
		d.over(at, d.written[at])
	}
	d.c.Clear()
	d.tampered = false
}

func TestDrawnCalls(t *testing.T) {
	for seed := range int64(8) {
		d := draws(t, seed, int(seed)*3)
		for i := range 2500 {
			d.step()
			if i%10 == 0 {
				holds(t, "drawn", d.x, d.m)
			}
			if d.r.Intn(60) == 0 {
				d.commits()
			}
		}
		holds(t, "behind all", d.x, d.m)
	}
}

// Blocks are written over between calls: each answer is right, or says so and has changed nothing.
func TestDrawnBlocksWrittenOver(t *testing.T) {
	right, refused := 0, 0
	for seed := range int64(10) {
		d := draws(t, 100+seed, int(seed)%3*4)
		for range 60 {
			d.commits()
			all := slices.Sorted(maps.Keys(d.written))
			for range 1 + d.r.Intn(5) {
				at := all[len(all)-1-d.r.Intn(min(len(all), 40))]
				b := d.written[all[d.r.Intn(len(all))]]
				if d.r.Intn(2) == 0 {
					b = junk()
				}
				d.over(at, b)
			}
			d.tampered = true
			for range 10 {
				d.step()
			}
			d.laidBack()
			holds(t, "laid back", d.x, d.m)
		}
		right, refused = right+d.right, refused+d.refused
	}
	if right < 500 || refused < 500 {
		t.Errorf("%d were right, %d refused", right, refused)
	}
}

// An adversary lays bytes, older ones among them, ahead of raw steps in the midst of calls.
func TestDrawnAdversaries(t *testing.T) {
	right, refused := 0, 0
	for seed := range int64(6) {
		d := draws(t, 200+seed, int(seed)%3*4)
		for range 40 {
			d.commits()
			d.d.Plan(d.plan())
			d.tampered = true
			for range 12 {
				d.step()
			}
			d.laidBack()
			holds(t, "laid back", d.x, d.m)
		}
		right, refused = right+d.right, refused+d.refused
	}
	if right < 300 || refused < 300 {
		t.Errorf("%d were right, %d refused", right, refused)
	}
}

// plan is what an adversary does at the next raw steps.
func (d *drawn) plan() []api.Step {
	var l []api.Step
	ops := d.d.Ops()
	for range 1 + d.r.Intn(12) {
		l = append(l, api.Step{
			Op:   ops + d.r.Intn(40),
			Kind: 1 + d.r.Intn(3),
			At:   max(1, int(d.next)-1-d.r.Intn(50)),
			Data: junk(),
			Back: d.r.Intn(ops),
		})
	}
	return l
}

package tree_test

import (
	"fmt"
	"math/rand"
	"strings"
	"testing"

	"signet/api"
	"signet/block"
	"signet/node"
	"signet/tree"
)

// model is what the calls must answer, by the chapter's words, of what lies on a disk.
type model struct {
	image []api.Block
	dead  bool
}

// none tells whether a reference is.
func none(r api.Ref) bool { return r == api.Ref{} }

// read is the block of a reference that is not none, and its node.
func (m model) read(r api.Ref, level int) (api.Block, api.Node, api.Errno) {
	switch {
	case r.At == 0 || int(r.At) >= len(m.image):
		return api.Block{}, api.Node{}, api.ErrTampered
	case m.dead:
		return api.Block{}, api.Node{}, api.ErrCut
	case block.Sum(m.image[r.At]) != r.Sum:
		return api.Block{}, api.Node{}, api.ErrTampered
	case level == 0:
		return m.image[r.At], api.Node{}, api.OK
	}
	n, err := node.Read(m.image[r.At])
	if err != api.OK || n.Level != level {
		return api.Block{}, api.Node{}, api.ErrNode
	}
	return m.image[r.At], n, api.OK
}

// wrong is what is told of a tree and a position ahead of all reading.
func (m model) wrong(t api.Tree, p at) api.Errno {
	switch {
	case t.Height < 0 || t.Height > 6 || t.Root.At == 0 && t.Root.Sum != (api.Sum{}):
		return api.ErrArg
	case p[0] < 0 || p[0] > t.Height || p[1] < 0 || p[1] >= capacities[t.Height-p[0]]:
		return api.ErrPlace
	}
	return api.OK
}

// ref is the reference at a position, and the blocks that were read.
func (m model) ref(t api.Tree, p at) (api.Ref, []api.Block, api.Errno) {
	if err := m.wrong(t, p); err != api.OK {
		return api.Ref{}, nil, err
	}
	r := t.Root
	var l []api.Block
	for level := t.Height; level > p[0] && !none(r); level-- {
		b, n, err := m.read(r, level)
		if err != api.OK {
			return api.Ref{}, nil, err
		}
		l = append(l, b)
		r = n.Kids[up(p, level-1)[1]%4]
	}
	return r, l, api.OK
}

func (m model) blocks(t api.Tree, place int) ([]api.Block, api.Errno) {
	r, l, err := m.ref(t, at{0, place})
	if err != api.OK || none(r) {
		return l, err
	}
	b, _, err := m.read(r, 0)
	if err != api.OK {
		return nil, err
	}
	return append(l, b), api.OK
}

func (m model) leaf(t api.Tree, place int) (api.Block, api.Errno) {
	l, err := m.blocks(t, place)
	if err != api.OK || len(l) <= t.Height {
		return api.Block{}, err
	}
	return l[t.Height], api.OK
}

func (m model) leaves(t api.Tree, from, n int) ([]api.Block, api.Errno) {
	if err := m.wrong(t, at{t.Height, 0}); err != api.OK {
		return nil, err
	}
	if from < 0 || n < 0 || from+n > capacities[t.Height] {
		return nil, api.ErrPlace
	}
	var l []api.Block
	for place := from; place < from+n; place++ {
		b, err := m.leaf(t, place)
		if err != api.OK {
			return nil, err
		}
		l = append(l, b)
	}
	return l, api.OK
}

// all is all positions that are told, ahead of an error, too.
func (m model) all(t api.Tree) ([]api.Pos, api.Errno) {
	if err := m.wrong(t, at{t.Height, 0}); err != api.OK {
		return nil, err
	}
	var l []api.Pos
	for _, p := range beneath(at{t.Height, 0}) {
		r, _, err := m.ref(t, p)
		if err != api.OK {
			return l, err
		}
		if !none(r) {
			l = append(l, api.Pos{Level: p[0], Place: p[1], Ref: r})
		}
	}
	return l, api.OK
}

// has is the reference that a tree has at a position, if it has it.
func (m model) has(t api.Tree, p at) (api.Ref, api.Errno) {
	if m.wrong(t, p) == api.ErrPlace {
		return api.Ref{}, api.OK
	}
	r, _, err := m.ref(t, p)
	return r, err
}

// diff goes over all positions that b may have.
func (m model) diff(a, b api.Tree) ([]api.Pos, api.Errno) {
	if m.wrong(a, at{a.Height, 0}) != api.OK || m.wrong(b, at{b.Height, 0}) != api.OK {
		return nil, api.ErrArg
	}
	refs := map[at]api.Ref{{b.Height, 0}: b.Root}
	var l []api.Pos
	for _, p := range beneath(at{b.Height, 0}) {
		r := refs[p]
		if none(r) {
			continue
		}
		old, err := m.has(a, p)
		if err != api.OK {
			return nil, err
		}
		if !none(old) && old.Sum == r.Sum {
			continue
		}
		l = append(l, api.Pos{Level: p[0], Place: p[1], Ref: r})
		if p[0] == 0 {
			continue
		}
		if !none(old) {
			if _, _, err := m.read(old, p[0]); err != api.OK {
				return nil, err
			}
		}
		_, n, err := m.read(r, p[0])
		if err != api.OK {
			return nil, err
		}
		for i, kid := range n.Kids {
			refs[at{p[0] - 1, 4*p[1] + i}] = kid
		}
	}
	return l, api.OK
}

func (m model) same(a, b api.Tree) (bool, api.Errno) {
	more, err := m.diff(a, b)
	if err != api.OK {
		return false, err
	}
	less, err := m.diff(b, a)
	if err != api.OK {
		return false, err
	}
	return a.Height == b.Height && len(more)+len(less) == 0, api.OK
}

// run is trees on a disk that were drawn, and what they are drawn of.
type run struct {
	*stand
	r     *rand.Rand
	odd   bool         // whether what may not be is drawn, too
	laid  [7][]api.Ref // by their levels
	trees []api.Tree
}

// draw is a reference of a level, laid or taken from what was laid.
func (x *run) draw(level int) api.Ref {
	if old := x.laid[level]; len(old) > 0 && x.r.Intn(3) == 0 {
		return old[x.r.Intn(len(old))]
	}
	switch {
	case x.r.Intn(5) == 0 || x.next > many-9:
		return api.Ref{}
	case x.odd && x.r.Intn(40) == 0:
		return api.Ref{At: uint32(1 + x.r.Intn(2*many)), Sum: api.Sum{31: byte(x.r.Intn(2))}}
	}
	n := api.Node{Level: level}
	if level > 0 {
		for i := range 4 {
			n.Kids[i] = x.draw(level - 1)
		}
	}
	b := full(x.r.Intn(5))
	if level > 0 && !(x.odd && x.r.Intn(25) == 0) {
		if x.odd && x.r.Intn(25) == 0 {
			n.Level = 1 + x.r.Intn(6)
		}
		b = nodeBlock(x.t, n)
	}
	r := x.lay(b)
	x.laid[level] = append(x.laid[level], r)
	return r
}

// drawn is a run with trees of several heights.
func drawn(t *testing.T, seed int64, room int, odd bool) *run {
	t.Helper()
	x := &run{stand: made(t, room), r: rand.New(rand.NewSource(seed)), odd: odd}
	for range 6 {
		height := x.r.Intn(4)
		x.trees = append(x.trees, api.Tree{Height: height, Root: x.draw(height)})
	}
	x.trees = append(x.trees, api.Tree{Height: x.r.Intn(7)})
	if odd {
		wrong := notRight(x.trees[0].Root)
		x.trees = append(x.trees, wrong[x.r.Intn(len(wrong))])
	}
	return x
}

// tree is one of the trees.
func (x *run) tree() api.Tree {
	return x.trees[x.r.Intn(len(x.trees))]
}

// place is one that is likely to be in a tree.
func (x *run) place(height int) int {
	if height < 0 || height > 6 {
		return x.r.Intn(5) - 1
	}
	return x.r.Intn(capacities[height]+2) - 1
}

// outcome is what a call answered, as a text, and its error.
type outcome struct {
	text string
	err  api.Errno
}

// tell is an outcome; a list that is empty is the same as nil.
func tell(err api.Errno, l ...any) outcome {
	return outcome{fmt.Sprint(l...), err}
}

// joined is the bytes of blocks.
func joined(l ...api.Block) string {
	var s strings.Builder
	for _, b := range l {
		s.Write(b[:])
	}
	return s.String()
}

// one draws a call, and tells what it is, what it answers, and what the model does.
func (x *run) one(m model) (string, outcome, outcome) {
	t, u := x.tree(), x.tree()
	place, level := x.place(t.Height), x.r.Intn(5)-1
	switch x.r.Intn(9) {
	case 0:
		b, err := tree.Leaf(x.c, t, place)
		c, e := m.leaf(t, place)
		return fmt.Sprint("Leaf ", place), tell(err, joined(b)), tell(e, joined(c))
	case 1:
		p := at{level, x.place(t.Height - level)}
		r, err := tree.Ref(x.c, t, p[0], p[1])
		q, _, e := m.ref(t, p)
		return fmt.Sprint("Ref ", p), tell(err, r), tell(e, q)
	case 2:
		l, err := tree.Blocks(x.c, t, place)
		k, e := m.blocks(t, place)
		return fmt.Sprint("Blocks ", place), tell(err, joined(l...)), tell(e, joined(k...))
	case 3, 4:
		n := x.place(t.Height)
		l, err := tree.Range(x.c, t, place, n)
		k, e := m.leaves(t, place, n)
		return fmt.Sprint("Range ", place, n), tell(err, joined(l...)), tell(e, joined(k...))
	case 5:
		l, err := tree.Diff(x.c, t, u)
		k, e := m.diff(t, u)
		return fmt.Sprint("Diff ", t, u), tell(err, l), tell(e, k)
	case 6:
		is, err := tree.Same(x.c, t, u)
		be, e := m.same(t, u)
		return fmt.Sprint("Same ", t, u), tell(err, is), tell(e, be)
	}
	return x.wholly(m, t)
}

// wholly draws a call that goes over a whole tree.
func (x *run) wholly(m model, t api.Tree) (string, outcome, outcome) {
	all, e := m.all(t)
	last, leaves, nodes, known := -1, 0, 0, all
	for _, p := range all {
		if p.Level == 0 {
			last = p.Place
			leaves++
		} else {
			nodes++
		}
	}
	if e != api.OK {
		last, leaves, nodes, known = 0, 0, 0, nil
	}
	switch x.r.Intn(4) {
	case 0:
		l, err := tree.All(x.c, t)
		return "All", tell(err, l), tell(e, known)
	case 1:
		n, k, err := tree.Count(x.c, t)
		return "Count", tell(err, n, k), tell(e, leaves, nodes)
	case 2:
		n, err := tree.Last(x.c, t)
		return "Last", tell(err, n), tell(e, last)
	}
	until := 1 + x.r.Intn(len(all)+1)
	l, err := each(x.stand, t, until)
	if until <= len(all) {
		all, e = all[:until], api.OK
	}
	return "Each", tell(err, l), tell(e, all)
}

// Calls answer as the model does, on trees of which parts are written over or are not what they should be, and without power.
func TestRuns(t *testing.T) {
	met := map[api.Errno]int{}
	for seed := range int64(300) {
		room := []int{0, 1, 7, 500}[seed%4]
		x := drawn(t, seed, room, seed%3 > 0)
		if x.odd {
			for range x.r.Intn(6) {
				x.over(api.Ref{At: uint32(1 + x.r.Intn(int(x.next)))}, full(9000))
			}
		}
		if room == 0 && x.odd && x.r.Intn(4) == 0 {
			x.dies()
		}
		m := model{image: x.d.Image(), dead: x.d.Dead()}
		for range 60 {
			name, got, want := x.one(m)
			if got != want {
				t.Fatalf("seed %d: %s: %q, %d; want %q, %d", seed, name, got.text, got.err, want.text, want.err)
			}
			met[got.err]++
		}
	}
	for _, e := range []api.Errno{api.OK, api.ErrArg, api.ErrTampered, api.ErrCut, api.ErrNode, api.ErrPlace} {
		if met[e] < 20 {
			t.Errorf("the error %d was met %d times", e, met[e])
		}
	}
}

// Whatever an adversary does meanwhile, an answer is the right one, or ErrTampered.
func TestRunsWithAnAdversary(t *testing.T) {
	right, tampered := 0, 0
	for seed := range int64(200) {
		x := drawn(t, seed, []int{0, 1, 7, 500}[seed%4], false)
		m := model{image: x.d.Image()}
		var steps []api.Step
		for range 40 {
			op := x.d.Ops() + x.r.Intn(400)
			steps = append(steps, api.Step{Op: op, Kind: 1 + x.r.Intn(3), At: x.r.Intn(int(x.next)), Data: full(x.r.Intn(9)), Back: x.r.Intn(op)})
		}
		x.d.Plan(steps)
		for range 40 {
			name, got, want := x.one(m)
			switch {
			case got == want:
				right++
			case got.err == api.ErrTampered:
				tampered++
			default:
				t.Fatalf("seed %d: %s: %q, %d; want %q, %d", seed, name, got.text, got.err, want.text, want.err)
			}
		}
	}
	if right < 500 || tampered < 500 {
		t.Errorf("%d were right, %d tampered", right, tampered)
	}
}

package find_test

import (
	"fmt"
	"slices"
	"testing"

	"signet/api"
	"signet/find"
)

// thicket is a tree of which directories of several leaves, with nodes above them, are in use, files with bytes, and a table with nodes.
func thicket() model {
	m := plant("/d/", "/d/e/", "/d/e/f", "/f", "/empty/", "/again = /d/e/f", "/d/up = /", "/far/", "/far/g")
	for i := range 18 {
		m.add(fmt.Sprintf("/far/n%02d", i*7%18))
	}
	for i := range 3 {
		m.add(fmt.Sprintf("/d/m%d/", i))
		m.add(fmt.Sprintf("/d/m%d/x", i))
	}
	return m
}

// needing is calls of all kinds for such a tree, right ones and wrong ones.
func needing() []call {
	l := slices.Concat(
		walks(), walks("d"), walks("d", "e"), walks("d", "e", "f"), walks("d", "m2", "x"), walks("far", "n00"), walks("far", "n17"), walks("far", "g"), walks("far", "missing"), walks("missing"), walks("missing", "x"), walks("f", "x"), walks("f", ""), walks("d", "up", "d", "up"), walks("empty", "x"), walks("", "d"),
		of("Lookup", "/", "/d", "/d/e/f", "/f", "/f/", "/again", "/far/n03", "/far/n03/", "/missing", "/far/missing", "/d/up/far/g", "/empty/", "a", "/\x00", deep(33), rep("/", 1025)),
		of("Parent", "/d", "/d/", "/d/e/f", "/missing", "/far/n03", "/far/missing", "/f/x", "/missing/x", "/empty/x", "/d/m1/x", "/", "a"),
		of("Glob", "/", "/*", "/d", "/d/*", "/d/m?/x", "/*/*", "/*/*/*", "/far/n1*", "/far/missing", "/f/*", "/missing/*", "/d/up/d/e/*", "/empty/*", "a", rep("/a", 33), rep("/", 1025)),
		whole(),
	)
	for n := 1; n < 12; n++ {
		l = append(l, call{op: "Each", n: n})
	}
	return l
}

// A block that was written over is told by those calls that need it, and by no others; of Each behind what was gone over ahead of it.
func TestBlocksWrittenOver(t *testing.T) {
	s := made(t, 256, 0)
	m := thicket()
	_, out := s.commit(s.laid(m))
	refs, image := s.refs(out.Table), s.d.Image()
	tampered := 0
	for p, r := range refs {
		s.over(r.At, junk())
		m.bad[p] = true
		for _, c := range needing() {
			got, want := c.do(s.open(out.Table, out.High)), c.want(m)
			if got != want {
				t.Errorf("%s with the block at %v written over = %s; want %s", c.brief(), p, got.brief(), want.brief())
			}
			if got.err == api.ErrTampered {
				tampered++
			}
		}
		delete(m.bad, p)
		s.d.Load(image)
		if t.Failed() {
			t.FailNow()
		}
	}
	if tampered < 200 {
		t.Errorf("only %d calls told it", tampered)
	}
}

// Where blocks were written over and laid back, calls that failed have changed nothing.
func TestLaidBack(t *testing.T) {
	s := made(t, 256, 0)
	m := thicket()
	_, out := s.commit(s.laid(m))
	refs, image := s.refs(out.Table), s.d.Image()
	for p, r := range refs {
		x := s.open(out.Table, out.High)
		s.over(r.At, junk())
		for _, c := range needing() {
			c.do(x)
		}
		s.d.Load(image)
		check(t, x, m, needing()...)
		holds(t, fmt.Sprint("laid back at ", p), x, m)
		if n, err := x.New(); n != 0 || err != api.OK {
			t.Errorf("New = %d, %d", n, err)
		}
	}
}

// An older image of the disk, laid over the whole of it, is told where it is not what it was.
func TestAnOlderImage(t *testing.T) {
	s := made(t, 256, 0)
	x := s.laid(plant("/d/", "/d/old"))
	x, _ = s.commit(x)
	older := s.d.Image()
	m := thicket()
	_, out := s.commit(s.laid(m))
	s.d.Load(older)
	for _, c := range needing() {
		clear(m.met)
		want := c.want(m)
		// All blocks of the tree are zeros now: nothing can be read that has to be read.
		if len(m.met) > 0 {
			want = answer{err: api.ErrTampered}
		}
		if got := c.do(s.open(out.Table, out.High)); got != want {
			t.Errorf("%s on an older image = %s; want %s", c.brief(), got.brief(), want.brief())
		}
	}
}

// The blocks that a call reads are those that it needs.
func TestWhatIsRead(t *testing.T) {
	s := made(t, 256, 0)
	m := thicket()
	_, out := s.commit(s.laid(m))
	refs := s.refs(out.Table)
	for _, c := range needing() {
		x := s.open(out.Table, out.High)
		clear(m.met)
		c.want(m)
		var want []uint32
		for p := range m.met {
			want = append(want, refs[p].At)
		}
		slices.Sort(want)
		if l := s.reads(func() { c.do(x) }); !slices.Equal(l, want) {
			t.Errorf("%s read the blocks %v; want %v", c.brief(), l, want)
		}
	}
}

// Without power each call that has to read tells that.
func TestWithoutPower(t *testing.T) {
	s := made(t, 256, 0)
	m := thicket()
	_, out := s.commit(s.laid(m))
	s.dies()
	for _, c := range needing() {
		clear(m.met)
		want := c.want(m)
		if len(m.met) > 0 {
			want = answer{err: api.ErrCut}
		}
		if got := c.do(s.open(out.Table, out.High)); got != want {
			t.Errorf("%s without power = %s; want %s", c.brief(), got.brief(), want.brief())
		}
	}
	s.d.Revive()
	check(t, s.open(out.Table, out.High), m, needing()...)
}

// All blocks are written over ahead of each raw step of a call in turn: it tells that, or what it must.
func TestFaultsAtEachStep(t *testing.T) {
	s := made(t, 128, 0)
	m := thicket()
	_, out := s.commit(s.laid(m))
	image := s.d.Image()
	for _, c := range needing() {
		for step, met := 0, true; met; step++ {
			x := s.open(out.Table, out.High)
			var plan []api.Step
			from := s.d.Ops()
			for at := 1; at < int(s.next); at++ {
				plan = append(plan, api.Step{Op: from + step, Kind: api.StepBlock, At: at, Data: junk()})
			}
			s.d.Plan(plan)
			got, want := c.do(x), c.want(m)
			if met = s.d.Ops() > from+step; met {
				want = answer{err: api.ErrTampered}
			}
			if c.op == "Each" {
				// What was gone over ahead of the fault was told.
				got.lists, want.lists = "", ""
			}
			if got != want {
				t.Fatalf("%s, all written over ahead of its raw step %d = %s; want %s", c.brief(), step, got.brief(), want.brief())
			}
			s.d.Plan(nil)
			s.d.Load(image)
		}
	}
}

// Blocks that are what their references say, but no nodes, no entries or no inodes.
func TestBlocksOfAnotherKind(t *testing.T) {
	s := made(t, 256, 0)
	noNode := api.Inode{Kind: api.KindDir, Links: 1, Size: 320, Stamp: 1, Tree: api.Tree{Height: 1, Root: s.lay(junk())}}
	noEntry := api.Inode{Kind: api.KindDir, Links: 1, Size: 64, Stamp: 1, Tree: api.Tree{Root: s.lay(junk())}}
	var b api.Block
	copy(b[:], thing{entries: []api.Link{{Inode: 2, Name: "a"}}}.text())
	up := api.Inode{Kind: api.KindDir, Links: 1, Size: 64, Stamp: 1, Tree: api.Tree{Root: s.lay(b)}}
	for err, wrong := range map[api.Errno]api.Inode{api.ErrNode: noNode, api.ErrEntry: noEntry} {
		for _, c := range slices.Concat(walks("a"), walks("a", "b"), of("Lookup", "/a", "/a/b"), of("Parent", "/a/b", "/a/b/c"), of("Glob", "/*", "/a", "/a/*"), []call{{op: "All"}, {op: "Paths", n: 1}, {op: "Paths", n: 9}}) {
			if got := c.do(s.tableOf([4]api.Inode{wrong})); got != (answer{err: err}) {
				t.Errorf("%s = %s; want error %d", c.brief(), got.brief(), err)
			}
		}
		for _, c := range slices.Concat(walks("a", "b"), walks("a", "b", "c"), of("Lookup", "/a/b"), of("Parent", "/a/b/c"), of("Glob", "/*/*", "/a/b"), []call{{op: "All"}, {op: "Paths", n: 1}}) {
			if got := c.do(s.tableOf([4]api.Inode{up, wrong})); got != (answer{err: err}) {
				t.Errorf("%s = %s; want error %d", c.brief(), got.brief(), err)
			}
		}
		x := s.tableOf([4]api.Inode{up, wrong})
		if l, other := told(x, 0); !slices.Equal(paths(l), []string{"/", "/a"}) || other != err {
			t.Errorf("Each tells %v, %d; want error %d behind /a", l, other, err)
		}
		l, other := told(x, 2)
		wantPaths(t, "Each that says no ahead of it", l, other, "/", "/a")
		if n, last, _, err := find.Parent(x, "/a/b"); n != 2 || last != "b" || err != api.OK {
			t.Errorf("Parent(/a/b), whose entries need not be read = %d, %q, %d", n, last, err)
		}
	}
	for _, c := range slices.Concat(walks("a"), of("Lookup", "/", "/a"), of("Parent", "/a"), of("Glob", "/", "/a"), whole()) {
		if got := c.do(s.open(api.Tree{Root: s.lay(junk())}, 1)); got != (answer{err: api.ErrInode}) {
			t.Errorf("%s = %s; want ErrInode", c.brief(), got.brief())
		}
	}
}

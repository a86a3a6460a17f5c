package branch_test

import (
	"fmt"
	"maps"
	"slices"
	"testing"

	"signet/api"
	"signet/branch"
	"signet/inodes"
)

// call is a call and what is handed in to it. Of Same the paths are old and s, of calls with one path it is s.
type call struct {
	op     string
	old, s string
	stamp  uint64
	busy   []int // what is open; with nil busy is nil
}

// brief is enough of a call to tell it.
func (c call) brief() string {
	return fmt.Sprintf("%s(%.100q, %.100q, stamp %d, busy %v)", c.op, c.old, c.s, c.stamp, c.busy)
}

// answer is all that a call may tell.
type answer struct {
	n    int
	same bool
	err  api.Errno
}

// ops is all calls.
var ops = []string{"Begin", "Create", "Mkdir", "Link", "Unlink", "Rmdir", "Rename", "Copy", "RemoveAll", "Same"}

// asked is the function that tells what is open.
func (c call) asked() func(int) bool {
	if c.busy == nil {
		return nil
	}
	return func(n int) bool { return slices.Contains(c.busy, n) }
}

// do is the call.
func (c call) do(x *inodes.Inodes) answer {
	return c.doBusy(x, c.asked())
}

// doBusy is the call, with the function that tells what is open.
func (c call) doBusy(x *inodes.Inodes, busy func(int) bool) (a answer) {
	switch c.op {
	case "Begin":
		a.err = branch.Begin(x, c.stamp)
	case "Create":
		a.n, a.err = branch.Create(x, c.s, c.stamp)
	case "Mkdir":
		a.n, a.err = branch.Mkdir(x, c.s, c.stamp)
	case "Link":
		a.err = branch.Link(x, c.old, c.s, c.stamp)
	case "Unlink":
		a.n, a.err = branch.Unlink(x, c.s, c.stamp, busy)
	case "Rmdir":
		a.n, a.err = branch.Rmdir(x, c.s, c.stamp, busy)
	case "Rename":
		a.n, a.err = branch.Rename(x, c.old, c.s, c.stamp, busy)
	case "Copy":
		a.n, a.err = branch.Copy(x, c.old, c.s, c.stamp)
	case "RemoveAll":
		a.n, a.err = branch.RemoveAll(x, c.s, c.stamp, busy)
	case "Same":
		a.same, a.err = branch.Same(x, c.old, c.s)
	default:
		panic("no call: " + c.op)
	}
	return a
}

// want is what the call must tell, and how the model is behind it.
func (c call) want(m model) (answer, model) {
	next := maps.Clone(m)
	a := c.on(next)
	if a.err != api.OK {
		return answer{err: a.err}, m
	}
	return a, next
}

// on does the call to a model, by the chapter's words. Behind an error the model is spoilt.
func (c call) on(m model) answer {
	switch c.op {
	case "Begin":
		if len(m) > 0 {
			return answer{err: api.ErrThere}
		}
		m[1] = thing{kind: api.KindDir, links: 1, stamp: c.stamp}
		return answer{}
	case "Create":
		return c.making(m, api.KindFile)
	case "Mkdir":
		return c.making(m, api.KindDir)
	case "Link":
		return c.linking(m)
	case "Unlink", "Rmdir":
		return c.unlinking(m)
	case "Rename":
		return c.renaming(m)
	case "Copy":
		return c.copying(m)
	case "RemoveAll":
		return c.removing(m)
	}
	a, err := m.lookup(c.old)
	if err != api.OK {
		return answer{err: err}
	}
	b, err := m.lookup(c.s)
	if err != api.OK {
		return answer{err: err}
	}
	return answer{same: m.like(a) == m.like(b)}
}

// making is Create and Mkdir.
func (c call) making(m model, kind int) answer {
	at, err := m.parent(c.s)
	if err != api.OK {
		return answer{err: err}
	}
	if at.asks && kind == api.KindFile {
		return answer{err: api.ErrIsDir}
	}
	if at.there != 0 {
		return answer{err: api.ErrThere}
	}
	n, err := m.make(kind, c.stamp)
	if err != api.OK {
		return answer{err: err}
	}
	return answer{n: n, err: m.add(at.dir, n, at.name, c.stamp)}
}

// linking is Link.
func (c call) linking(m model) answer {
	n, err := m.lookup(c.old)
	if err != api.OK {
		return answer{err: err}
	}
	if m[n].kind == api.KindDir {
		return answer{err: api.ErrIsDir}
	}
	at, err := m.parent(c.s)
	if err != api.OK {
		return answer{err: err}
	}
	if at.asks {
		return answer{err: api.ErrIsDir}
	}
	if at.there != 0 {
		return answer{err: api.ErrThere}
	}
	if m[n].links == 1000 {
		return answer{err: api.ErrLinks}
	}
	m.link(n, 1, c.stamp)
	return answer{err: m.add(at.dir, n, at.name, c.stamp)}
}

// wrong is why Unlink and Rmdir can't take away what is there.
func (c call) wrong(m model, at where) api.Errno {
	f := m[at.there]
	busy := slices.Contains(c.busy, at.there)
	switch {
	case at.there == 0:
		return api.ErrMissing
	case c.op == "Unlink" && f.kind == api.KindDir:
		return api.ErrIsDir
	case c.op == "Unlink" && at.asks:
		return api.ErrDir
	case c.op == "Unlink" && f.links == 1 && busy:
		return api.ErrBusy
	case c.op == "Rmdir" && f.kind != api.KindDir:
		return api.ErrDir
	case c.op == "Rmdir" && len(f.entries) > 0:
		return api.ErrEmpty
	case c.op == "Rmdir" && busy:
		return api.ErrBusy
	}
	return api.OK
}

// unlinking is Unlink and Rmdir.
func (c call) unlinking(m model) answer {
	at, err := m.parent(c.s)
	if err != api.OK {
		return answer{err: err}
	}
	if err := c.wrong(m, at); err != api.OK {
		return answer{err: err}
	}
	m.remove(at.dir, at.name, c.stamp)
	m.link(at.there, -1, c.stamp)
	return answer{n: at.there}
}

// renaming is Rename.
func (c call) renaming(m model) answer {
	from, err := m.parent(c.old)
	if err != api.OK {
		return answer{err: err}
	}
	if from.there == 0 {
		return answer{err: api.ErrMissing}
	}
	isDir := m[from.there].kind == api.KindDir
	if from.asks && !isDir {
		return answer{err: api.ErrDir}
	}
	to, err := m.parent(c.s)
	if err != api.OK {
		return answer{err: err}
	}
	if to.asks && !isDir {
		return answer{err: api.ErrDir}
	}
	if isDir && m.under(to.dir, from.there) {
		return answer{err: api.ErrInside}
	}
	if to.there == 0 {
		m.remove(from.dir, from.name, c.stamp)
		return answer{err: m.add(to.dir, from.there, to.name, c.stamp)}
	}
	if to.there == from.there {
		return answer{}
	}
	other := m[to.there]
	switch {
	case other.kind == api.KindDir && !isDir:
		return answer{err: api.ErrIsDir}
	case other.kind == api.KindFile && isDir:
		return answer{err: api.ErrDir}
	case len(other.entries) > 0:
		return answer{err: api.ErrEmpty}
	case other.links == 1 && slices.Contains(c.busy, to.there):
		return answer{err: api.ErrBusy}
	}
	m.swap(to.dir, from.there, to.name, c.stamp)
	m.link(to.there, -1, c.stamp)
	m.remove(from.dir, from.name, c.stamp)
	return answer{n: to.there}
}

// copying is Copy.
func (c call) copying(m model) answer {
	from, err := m.lookup(c.old)
	if err != api.OK {
		return answer{err: err}
	}
	to, err := m.parent(c.s)
	if err != api.OK {
		return answer{err: err}
	}
	isDir := m[from].kind == api.KindDir
	if to.asks && !isDir {
		return answer{err: api.ErrIsDir}
	}
	if to.there != 0 {
		return answer{err: api.ErrThere}
	}
	if isDir && m.under(to.dir, from) {
		return answer{err: api.ErrInside}
	}
	n, err := m.copy(from, to.dir, to.name, c.stamp)
	return answer{n: n, err: err}
}

// copy copies an inode, with what hangs beneath it.
func (m model) copy(from, d int, name string, stamp uint64) (int, api.Errno) {
	n, err := m.make(m[from].kind, stamp)
	if err != api.OK {
		return 0, err
	}
	if err := m.add(d, n, name, stamp); err != api.OK {
		return 0, err
	}
	f := m[n]
	f.bytes = m[from].bytes
	m[n] = f
	for _, e := range m.byNames(from) {
		if _, err := m.copy(e.Inode, n, e.Name, stamp); err != api.OK {
			return 0, err
		}
	}
	return n, api.OK
}

// removing is RemoveAll. Who is busy is asked when all is done: of those that are gone none may be.
func (c call) removing(m model) answer {
	at, err := m.parent(c.s)
	if err != api.OK {
		return answer{err: err}
	}
	if at.there == 0 {
		return answer{err: api.ErrMissing}
	}
	if at.asks && m[at.there].kind != api.KindDir {
		return answer{err: api.ErrDir}
	}
	was := maps.Clone(m)
	many := m.removeAll(at.dir, at.name, c.stamp)
	for _, n := range c.busy {
		if _, is := m[n]; !is && was[n].kind != api.KindNone {
			return answer{err: api.ErrBusy}
		}
	}
	return answer{n: many}
}

// removeAll takes an entry away, what is beneath it first, and tells how many entries that is.
func (m model) removeAll(d int, name string, stamp uint64) int {
	many := 1
	n := m[d].entries[m[d].place(name)].Inode
	for _, e := range m.byNames(n) {
		many += m.removeAll(n, e.Name, stamp)
	}
	m.remove(d, name, stamp)
	m.link(n, -1, stamp)
	return many
}

// scene is inodes, and the model of them.
type scene struct {
	t     *testing.T
	x     *inodes.Inodes
	m     model
	stamp uint64
}

// scenes does something with inodes as they were made, and with the same, committed.
func scenes(t *testing.T, m model, do func(sc *scene)) {
	t.Helper()
	s := made(t, 8192, 64)
	x := s.laid(m)
	do(&scene{t, x.Clone(), m, 1})
	y, _ := s.commit(x)
	do(&scene{t, y, m, 1})
}

// does does a call, with a stamp that nothing has yet, and asks that it tells what the model does, and that all is as the model says behind it.
func (sc *scene) does(c call) answer {
	sc.t.Helper()
	sc.stamp++
	c.stamp = sc.stamp
	want, next := c.want(sc.m)
	got := c.do(sc.x)
	if got != want {
		sc.t.Fatalf("%s = %v; want %v", c.brief(), got, want)
	}
	holds(sc.t, c.brief(), sc.x, next)
	sc.m = next
	return got
}

// tells asks that a call tells that, too.
func (sc *scene) tells(c call, want answer) {
	sc.t.Helper()
	if got := sc.does(c); got != want {
		sc.t.Fatalf("%s = %v; want %v", c.brief(), got, want)
	}
}

// fails asks that calls tell an error with nothing beside it, and that all is as it was: what would be new, too.
func (sc *scene) fails(want api.Errno, calls ...call) {
	sc.t.Helper()
	for _, c := range calls {
		fresh, _ := sc.x.New()
		sc.tells(c, answer{err: want})
		if n, err := sc.x.New(); n != fresh || err != api.OK {
			sc.t.Fatalf("behind %s there are %d new, %d; want %d", c.brief(), n, err, fresh)
		}
	}
}

// apart does something with the inodes that the scene does not keep.
func (sc *scene) apart(do func(sc *scene)) {
	sc.t.Helper()
	do(&scene{sc.t, sc.x.Clone(), sc.m, sc.stamp})
}

// makes is Create and Mkdir of paths.
func makes(paths ...string) []call {
	return append(of("Create", paths...), of("Mkdir", paths...)...)
}

// of is calls of paths.
func of(op string, paths ...string) []call {
	var l []call
	for _, s := range paths {
		l = append(l, call{op: op, s: s})
	}
	return l
}

// from is a call of two paths.
func from(op, old, s string) call {
	return call{op: op, old: old, s: s}
}

// busy is the call where some inodes are open.
func (c call) with(busy ...int) call {
	c.busy = busy
	return c
}

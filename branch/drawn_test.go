package branch_test

import (
	"fmt"
	"maps"
	"math/rand/v2"
	"strings"
	"testing"

	"signet/api"
	"signet/file"
	"signet/inodes"
)

// drawn is a drawing of calls, from a seed.
type drawn struct {
	*rand.Rand
	busy bool // whether something is open now and then
}

// drawing is one that is the same each time.
func drawing(seed uint64) drawn {
	return drawn{rand.New(rand.NewPCG(22, seed)), seed%2 == 0}
}

// name is a name, of few, so that they are met again.
func (r drawn) name() string {
	if r.IntN(40) == 0 {
		return long("n")
	}
	return string(rune('a' + r.IntN(4)))
}

// path is a path, mostly one that may be.
func (r drawn) path() string {
	var s strings.Builder
	for range 1 + r.IntN(4) {
		s.WriteString("/" + r.name())
	}
	switch r.IntN(30) {
	case 0:
		s.WriteString("/..")
	case 1:
		s.WriteString("/.")
	case 2, 3, 4:
		s.WriteString("/")
	case 5:
		return []string{"", "/", "a", "/\x00", rep("/a", 33), "/a/../..", rep("/", 1025)}[r.IntN(7)]
	}
	return s.String()
}

// of is a path of what is there, or one in a directory that is there.
func (r drawn) of(m model) string {
	if r.IntN(4) == 0 {
		return r.path()
	}
	s, n := "", 1
	for {
		l := m[n].entries
		if len(l) == 0 || s != "" && r.IntN(3) == 0 {
			break
		}
		e := l[r.IntN(len(l))]
		if e.Name == "many" {
			return r.path()
		}
		s += "/" + e.Name
		n = e.Inode
	}
	if m[n].kind == api.KindDir && r.IntN(2) == 0 {
		s += "/" + r.name()
	}
	if r.IntN(12) == 0 {
		s += "/"
	}
	return s
}

// call is a call as it comes.
func (r drawn) call(m model, stamp uint64) call {
	l := []string{"Create", "Create", "Create", "Create", "Mkdir", "Mkdir", "Mkdir", "Link", "Link", "Link", "Link", "Unlink", "Rmdir", "Rename", "Rename", "Rename", "Rename", "Rename", "Copy", "Copy", "RemoveAll", "Same", "Same", "Begin"}
	op := l[r.IntN(len(l))]
	c := call{op: op, old: r.of(m), s: r.of(m), stamp: stamp}
	// What is taken away whole is mostly something small: else there would not be much left to do.
	if op == "RemoveAll" && r.IntN(2) == 0 {
		c.s += "/" + r.name()
	}
	if r.busy && r.IntN(2) == 0 {
		c.busy = []int{}
		for range r.IntN(6) {
			c.busy = append(c.busy, 1+r.IntN(20))
		}
	}
	return c
}

// write lays bytes into a file, if there is one, here and in the model.
func (r drawn) write(t *testing.T, x *inodes.Inodes, m model, stamp uint64) {
	all := m.numbers()
	n := all[r.IntN(len(all))]
	f := m[n]
	if f.kind != api.KindFile {
		return
	}
	f.stamp, f.bytes = stamp, rep(fmt.Sprint(r.IntN(3)), 1+r.IntN(400))
	m[n] = f
	if err := file.Truncate(x, n, 0, stamp); err != api.OK {
		t.Fatal(err)
	}
	if _, err := file.Write(x, n, 0, f.bytes, stamp); err != api.OK {
		t.Fatal(err)
	}
}

// seen is how often each call told each error.
type seen map[string]int

// told keeps what a call told.
func (s seen) told(c call, a answer) {
	s[fmt.Sprint(c.op, " ", a.err)]++
	if a.same {
		s["Same true"]++
	}
	if c.op == "Rename" && a.n != 0 {
		s["Rename onto"]++
	}
}

// atLeast asks that all these were told often enough to mean something.
func (s seen) atLeast(t *testing.T, many int, what ...string) {
	t.Helper()
	for _, w := range what {
		if s[w] < many {
			t.Errorf("%s was told %d times; want %d", w, s[w], many)
		}
	}
}

// Calls as they come, against the model: each answer, and all inodes and entries behind it; with commits between them.
func TestDrawn(t *testing.T) {
	t.Parallel()
	met := seen{}
	for seed := range uint64(200) {
		r := drawing(seed)
		s := made(t, 8192, r.IntN(40))
		x, m := s.empty(), model{}
		for step := range 300 {
			c := r.call(m, uint64(step+1))
			if step == 0 {
				c.op = "Begin"
			}
			want, next := c.want(m)
			got := c.do(x)
			if got != want {
				t.Fatalf("seed %d, step %d: %s = %v; want %v", seed, step, c.brief(), got, want)
			}
			what := fmt.Sprintf("seed %d, step %d: %s", seed, step, c.brief())
			holds(t, what, x, next)
			follows(t, what, x)
			met.told(c, got)
			m = maps.Clone(next)
			if r.IntN(6) == 0 {
				r.write(t, x, m, uint64(step+1))
			}
			if r.IntN(20) == 0 {
				x, _ = s.commit(x)
			}
			// A tree that is grown is cut, so that all that is made has room.
			if len(m) > 60 {
				x, m = s.empty(), model{}
				c = call{op: "Begin"}
				c.do(x)
				_, m = c.want(m)
			}
		}
	}
	met.atLeast(t, 100, "Create 0", "Mkdir 0", "Link 0", "Unlink 0", "Rmdir 0", "Rename 0", "Rename onto", "Copy 0", "RemoveAll 0", "Same 0", "Same true")
	for errs, ops := range map[api.Errno][]string{
		api.ErrPath:    {"Create", "Mkdir", "Link", "Unlink", "Rmdir", "Rename", "Copy", "RemoveAll", "Same"},
		api.ErrMissing: {"Create", "Mkdir", "Link", "Unlink", "Rmdir", "Rename", "Copy", "RemoveAll", "Same"},
		api.ErrDir:     {"Create", "Mkdir", "Link", "Unlink", "Rmdir", "Rename", "Copy", "RemoveAll", "Same"},
		api.ErrThere:   {"Begin", "Create", "Mkdir", "Link", "Copy"},
		api.ErrIsDir:   {"Create", "Link", "Unlink", "Rename", "Copy"},
		api.ErrEmpty:   {"Rmdir", "Rename"},
		api.ErrInside:  {"Rename", "Copy"},
		api.ErrBusy:    {"Unlink", "Rmdir", "Rename", "RemoveAll"},
	} {
		for _, op := range ops {
			met.atLeast(t, 5, fmt.Sprint(op, " ", errs))
		}
	}
}

// Calls as they come where but a few numbers are free.
func TestDrawnWithFewNumbers(t *testing.T) {
	t.Parallel()
	met := seen{}
	base := model{1: {kind: api.KindDir, links: 1, stamp: 1}}
	base.grow("/many/")
	var l []api.Link
	for len(base) < 4091 {
		n, _ := base.make(api.KindFile, 1)
		l = append(l, api.Link{Inode: n, Name: fmt.Sprint("n", n)})
	}
	base[2] = thing{kind: api.KindDir, links: 1, stamp: 1, entries: l}
	first := made(t, 16, 0).laid(base)
	for seed := range uint64(12) {
		r := drawing(seed)
		x, m := first.Clone(), base
		for step := range 100 {
			c := r.call(m, uint64(step+2))
			want, next := c.want(m)
			got := c.do(x)
			if got != want {
				t.Fatalf("seed %d, step %d: %s = %v; want %v", seed, step, c.brief(), got, want)
			}
			holds(t, fmt.Sprintf("seed %d, step %d: %s", seed, step, c.brief()), x, next)
			met.told(c, got)
			m = next
		}
	}
	met.atLeast(t, 1, "Create 150", "Mkdir 150", "Copy 150", "Copy 0")
}

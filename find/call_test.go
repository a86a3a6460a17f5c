package find_test

import (
	"fmt"
	"slices"
	"strings"
	"testing"

	"signet/api"
	"signet/find"
	"signet/inodes"
)

// call is a call and what is handed in to it; of Each n is how many times its function is called till that says no, of Paths the inode.
type call struct {
	op    string
	s     string
	names []string
	n     int
}

// brief is enough of a call to tell it.
func (c call) brief() string {
	return fmt.Sprintf("%s{%q, %.200q, %d}", c.op, short(c.s), c.names, c.n)
}

// answer is all that a call may tell.
type answer struct {
	inode int
	name  string
	path  string
	info  api.Info
	lists string
	err   api.Errno
}

// brief is enough of an answer to tell it.
func (a answer) brief() string {
	return fmt.Sprintf("{inode %d, name %q, path %s, %v, lists %s, error %d}", a.inode, a.name, short(a.path), a.info, short(a.lists), a.err)
}

// toldPath is a path as a text.
func toldPath(p api.Path) string {
	if len(p.Names) == 0 && !p.Dir {
		return ""
	}
	return fmt.Sprintf("%q %v", p.Names, p.Dir)
}

// toldFound is what was found as a text; of nothing there is none.
func toldFound(l []api.Found) string {
	var s strings.Builder
	for _, f := range l {
		fmt.Fprintf(&s, "%q %v ", f.Path, f.Info)
	}
	return s.String()
}

// toldInts is numbers as a text.
func toldInts(a, b []int) string {
	if len(a)+len(b) == 0 {
		return ""
	}
	return fmt.Sprint(a, b)
}

// toldTexts is texts as a text.
func toldTexts(l []string) string {
	if len(l) == 0 {
		return ""
	}
	return fmt.Sprintf("%q", l)
}

// do is the call.
func (c call) do(x *inodes.Inodes) (a answer) {
	switch c.op {
	case "Walk":
		a.inode, a.err = find.Walk(x, c.names)
	case "Chain":
		way, places, err := find.Chain(x, c.names)
		a.lists, a.err = toldInts(way, places), err
	case "Lookup":
		a.info, a.err = find.Lookup(x, c.s)
	case "Parent":
		inode, name, p, err := find.Parent(x, c.s)
		a = answer{inode: inode, name: name, path: toldPath(p), err: err}
	case "All":
		l, err := find.All(x)
		a.lists, a.err = toldFound(l), err
	case "Each":
		var l []api.Found
		err := find.Each(x, func(f api.Found) bool {
			l = append(l, f)
			return len(l) != c.n
		})
		a.lists, a.err = toldFound(l), err
	case "Paths":
		l, err := find.Paths(x, c.n)
		a.lists, a.err = toldTexts(l), err
	case "Glob":
		l, err := find.Glob(x, c.s)
		a.lists, a.err = toldFound(l), err
	default:
		panic("no call: " + c.op)
	}
	return a
}

// want is what the call must tell.
func (c call) want(m model) (a answer) {
	switch c.op {
	case "Walk", "Chain":
		way, places, err := m.walk(c.names)
		if err != api.OK {
			return answer{err: err}
		}
		if c.op == "Walk" {
			return answer{inode: way[len(way)-1]}
		}
		return answer{lists: toldInts(way, places)}
	case "Lookup":
		names, dir, err := read(c.s)
		if err != api.OK {
			return answer{err: err}
		}
		a.info, a.err = m.reached(names, dir)
	case "Parent":
		return c.wantParent(m)
	case "All":
		l, err := m.all(never)
		if err != api.OK {
			return answer{err: err}
		}
		return answer{lists: toldFound(l)}
	case "Each":
		l, err := m.all(c.n)
		return answer{lists: toldFound(l), err: err}
	case "Paths":
		l, err := m.all(never)
		if err != api.OK {
			return answer{err: err}
		}
		l = slices.DeleteFunc(l, func(f api.Found) bool { return f.Info.Number != c.n })
		var paths []string
		for _, f := range l {
			paths = append(paths, f.Path)
		}
		return answer{lists: toldTexts(paths)}
	case "Glob":
		l, err := m.glob(c.s)
		return answer{lists: toldFound(l), err: err}
	}
	return a
}

// wantParent is what Parent must tell.
func (c call) wantParent(m model) answer {
	names, dir, err := read(c.s)
	if err != api.OK {
		return answer{err: err}
	}
	if len(names) == 0 {
		return answer{err: api.ErrPath}
	}
	last := len(names) - 1
	up, err := m.reached(names[:last], true)
	if err != api.OK {
		return answer{err: err}
	}
	return answer{inode: up.Number, name: names[last], path: toldPath(api.Path{Names: names, Dir: dir})}
}

// walks is Walk and Chain of names.
func walks(names ...string) []call {
	return []call{{op: "Walk", names: names}, {op: "Chain", names: names}}
}

// of is calls of a kind of texts.
func of(op string, texts ...string) []call {
	var l []call
	for _, s := range texts {
		l = append(l, call{op: op, s: s})
	}
	return l
}

// whole is a call of each kind for which all is gone over.
func whole() []call {
	return []call{{op: "All"}, {op: "Each", n: never}, {op: "Paths", n: 1}, {op: "Paths", n: 2}, {op: "Paths", n: 3}}
}

// check asks that calls tell what the model does.
func check(t *testing.T, x *inodes.Inodes, m model, calls ...call) {
	t.Helper()
	for _, c := range calls {
		if got, want := c.do(x), c.want(m); got != want {
			t.Errorf("%s = %s; want %s", c.brief(), got.brief(), want.brief())
		}
	}
}

// tells asks that calls tell that, and that the model does, too.
func tells(t *testing.T, x *inodes.Inodes, m model, want answer, calls ...call) {
	t.Helper()
	check(t, x, m, calls...)
	for _, c := range calls {
		if got := c.do(x); got != want {
			t.Errorf("%s = %s; want %s", c.brief(), got.brief(), want.brief())
		}
	}
}

// fails asks that calls tell an error, and nothing beside it.
func fails(t *testing.T, x *inodes.Inodes, m model, want api.Errno, calls ...call) {
	t.Helper()
	tells(t, x, m, answer{err: want}, calls...)
}

// paths is the paths of what was found.
func paths(l []api.Found) []string {
	var s []string
	for _, f := range l {
		s = append(s, f.Path)
	}
	return s
}

// wantPaths asks that just these paths were found, in their order.
func wantPaths(t *testing.T, what string, l []api.Found, err api.Errno, want ...string) {
	t.Helper()
	if !slices.Equal(paths(l), want) || err != api.OK {
		t.Errorf("%s found %s, %d; want %s", what, short(toldTexts(paths(l))), err, short(toldTexts(want)))
	}
}

// bothForms does something with inodes as they were made, and with the same, committed.
func bothForms(t *testing.T, m model, do func(x *inodes.Inodes)) {
	t.Helper()
	s := made(t, 8192, 64)
	x := s.laid(m)
	do(x)
	y, _ := s.commit(x)
	do(y)
}

package dir_test

import (
	"fmt"
	"maps"
	"slices"
	"sort"
	"strings"
	"testing"

	"signet/api"
	"signet/dir"
	"signet/inodes"
)

// thing is an inode by the chapter's words: what it is, and its entries by their places, or the bytes of a file.
type thing struct {
	kind    int
	stamp   uint64
	entries []api.Link
	bytes   string
}

// model is the inodes in use, by their numbers. What is in it is replaced, never changed.
type model map[int]thing

// answer is all that a call may tell.
type answer struct {
	inode, place, count int
	link                api.Link
	links, names        string
	more                bool
	err                 api.Errno
}

// brief is enough of an answer to tell it.
func (a answer) brief() string {
	return fmt.Sprintf("{inode %d, place %d, count %d, %v, links %.200s, names %.200s, more %v, error %d}", a.inode, a.place, a.count, a.link, a.links, a.names, a.more, a.err)
}

// call is a call and what is handed in to it: s is a name, a beginning, a pattern or what a page comes behind, n the place or how many.
type call struct {
	op    string
	dir   int
	s     string
	inode int
	n     int
	stamp uint64
}

// brief is enough of a call to tell it.
func (c call) brief() string {
	return fmt.Sprintf("%s{dir %d, %.60q, inode %d, n %d, stamp %d}", c.op, c.dir, c.s, c.inode, c.n, c.stamp)
}

// ops is all calls of the package.
var ops = []string{"Find", "Add", "Remove", "Swap", "List", "Count", "Entry", "Names", "Page", "Begins", "Matches"}

// do is the call.
func (c call) do(x *inodes.Inodes) (a answer) {
	var links []api.Link
	var names []string
	switch c.op {
	case "Find":
		a.inode, a.place, a.err = dir.Find(x, c.dir, c.s)
	case "Add":
		a.err = dir.Add(x, c.dir, api.Link{Inode: c.inode, Name: c.s}, c.stamp)
	case "Remove":
		a.inode, a.err = dir.Remove(x, c.dir, c.s, c.stamp)
	case "Swap":
		a.inode, a.err = dir.Swap(x, c.dir, api.Link{Inode: c.inode, Name: c.s}, c.stamp)
	case "List":
		links, a.err = dir.List(x, c.dir)
	case "Count":
		a.count, a.err = dir.Count(x, c.dir)
	case "Entry":
		a.link, a.err = dir.Entry(x, c.dir, c.n)
	case "Names":
		names, a.err = dir.Names(x, c.dir, c.inode)
	case "Page":
		links, a.more, a.err = dir.Page(x, c.dir, c.s, c.n)
	case "Begins":
		links, a.err = dir.Begins(x, c.dir, c.s)
	case "Matches":
		links, a.err = dir.Matches(x, c.dir, c.s)
	default:
		panic("no call: " + c.op)
	}
	a.links, a.names = told(links), toldNames(names)
	return a
}

// told is entries as a text.
func told(l []api.Link) string {
	var s strings.Builder
	for _, e := range l {
		fmt.Fprintf(&s, "%d:%q ", e.Inode, e.Name)
	}
	return s.String()
}

// toldNames is names as a text.
func toldNames(l []string) string {
	var s strings.Builder
	for _, e := range l {
		fmt.Fprintf(&s, "%q ", e)
	}
	return s.String()
}

// get is what x.Get tells.
func (m model) get(n int) (thing, api.Errno) {
	if n < 1 || n > 4096 {
		return thing{}, api.ErrNumber
	}
	f, is := m[n]
	if !is {
		return thing{}, api.ErrNone
	}
	return f, api.OK
}

// want is what the call must tell; the model is changed as it says.
func (c call) want(m model) answer {
	d, err := m.get(c.dir)
	if err != api.OK {
		return answer{err: err}
	}
	if d.kind != api.KindDir {
		return answer{err: api.ErrDir}
	}
	var a answer
	var changed []api.Link
	switch c.op {
	case "Add", "Remove", "Swap":
		a, changed = c.wantChanged(d)
	default:
		return c.wantTold(d)
	}
	if a.err == api.OK {
		m[c.dir] = thing{kind: d.kind, stamp: c.stamp, entries: changed}
	}
	return a
}

// wantTold is what a call must tell that changes nothing.
func (c call) wantTold(d thing) answer {
	at := d.place(c.s)
	switch c.op {
	case "Find":
		if !isName(c.s) {
			return answer{err: api.ErrName}
		}
		if at < 0 {
			return answer{err: api.ErrMissing}
		}
		return answer{inode: d.entries[at].Inode, place: at}
	case "Count":
		return answer{count: len(d.entries)}
	case "Entry":
		if c.n < 0 || c.n >= len(d.entries) {
			return answer{err: api.ErrPlace}
		}
		return answer{link: d.entries[c.n]}
	case "List":
		return answer{links: told(d.by(func(api.Link) bool { return true }))}
	case "Names":
		var names []string
		for _, e := range d.by(func(e api.Link) bool { return e.Inode == c.inode }) {
			names = append(names, e.Name)
		}
		return answer{names: toldNames(names)}
	case "Page":
		if c.n < 0 {
			return answer{err: api.ErrArg}
		}
		l := d.by(func(e api.Link) bool { return e.Name > c.s })
		many := min(c.n, len(l))
		return answer{links: told(l[:many]), more: many < len(l)}
	case "Begins":
		return answer{links: told(d.by(func(e api.Link) bool { return len(e.Name) >= len(c.s) && e.Name[:len(c.s)] == c.s }))}
	case "Matches":
		return answer{links: told(d.by(func(e api.Link) bool { return matches(c.s, e.Name) }))}
	}
	panic("no call: " + c.op)
}

// wantChanged is what a call must tell that changes entries, and what they are behind it.
func (c call) wantChanged(d thing) (answer, []api.Link) {
	at, l := d.place(c.s), slices.Clone(d.entries)
	if c.op != "Remove" && (c.inode < 1 || c.inode > 4096) {
		return answer{err: api.ErrArg}, nil
	}
	if !isName(c.s) {
		return answer{err: api.ErrName}, nil
	}
	if c.op == "Add" {
		if at >= 0 {
			return answer{err: api.ErrThere}, nil
		}
		if len(l) == 16384 {
			return answer{err: api.ErrFull}, nil
		}
		return answer{}, append(l, api.Link{Inode: c.inode, Name: c.s})
	}
	if at < 0 {
		return answer{err: api.ErrMissing}, nil
	}
	had := l[at].Inode
	if c.op == "Swap" {
		l[at].Inode = c.inode
		return answer{inode: had}, l
	}
	l[at] = l[len(l)-1]
	return answer{inode: had}, l[:len(l)-1]
}

// place is where a name's entry stands; -1, if there is none.
func (d thing) place(s string) int {
	return slices.IndexFunc(d.entries, func(e api.Link) bool { return e.Name == s })
}

// by is some entries, by their names.
func (d thing) by(take func(api.Link) bool) []api.Link {
	var l []api.Link
	for _, e := range d.entries {
		if take(e) {
			l = append(l, e)
		}
	}
	sort.Slice(l, func(i, j int) bool { return l[i].Name < l[j].Name })
	return l
}

// isName tells whether a text is a name.
func isName(s string) bool {
	return len(s) >= 1 && len(s) <= 56 && s != "." && s != ".." && !strings.Contains(s, "\x00") && !strings.Contains(s, "/")
}

// matches tells whether a text is a pattern.
func matches(pattern, s string) bool {
	if pattern == "" {
		return s == ""
	}
	if pattern[0] == '*' {
		return matches(pattern[1:], s) || s != "" && matches(pattern, s[1:])
	}
	return s != "" && (pattern[0] == '?' || pattern[0] == s[0]) && matches(pattern[1:], s[1:])
}

// inBytes is entries in bytes, by the words of chapter 13.
func inBytes(l []api.Link) string {
	s := make([]byte, 64*len(l))
	for i, e := range l {
		b := s[64*i:]
		b[0], b[1] = byte(e.Inode), byte(e.Inode>>8)
		b[4] = byte(len(e.Name))
		copy(b[8:], e.Name)
	}
	return string(s)
}

// text is the bytes of an inode.
func (d thing) text() string {
	return d.bytes + inBytes(d.entries)
}

// holds asks that inodes are as the model says, to the last bit that layer 15 tells.
func holds(t *testing.T, what string, x *inodes.Inodes, m model) {
	t.Helper()
	all, err := x.All()
	if want := slices.Sorted(maps.Keys(m)); !slices.Equal(all, want) || err != api.OK {
		t.Fatalf("%s: All = %v, %d; want %v", what, all, err, want)
	}
	for n, f := range m {
		text := f.text()
		want := api.Info{Number: n, Kind: f.kind, Links: 1, Size: len(text), Stamp: f.stamp}
		if i, err := x.Get(n); i != want || err != api.OK {
			t.Fatalf("%s: Get(%d) = %v, %d; want %v", what, n, i, err, want)
		}
		for place := 0; place <= len(text)/256+1 && place < 4096; place++ {
			var want api.Block
			if first := 256 * place; first < len(text) {
				copy(want[:], text[first:])
			}
			if b, err := x.Leaf(n, place); b != want || err != api.OK {
				t.Fatalf("%s: the leaf %d of %d is another one: %q; want %q; error %d", what, place, n, b, want, err)
			}
		}
	}
}

// check makes a call on inodes and on the model, and asks that they tell the same.
func check(t *testing.T, x *inodes.Inodes, m model, c call) {
	t.Helper()
	if got, want := c.do(x), c.want(m); got != want {
		t.Fatalf("%s = %s; want %s", c.brief(), got.brief(), want.brief())
	}
}

// apart makes a call on a clone of both, and asks that all there is as it must be.
func apart(t *testing.T, x *inodes.Inodes, m model, c call) {
	t.Helper()
	y, e := x.Clone(), maps.Clone(m)
	check(t, y, e, c)
	holds(t, c.brief(), y, e)
}

// fails asks that calls tell an error, nothing beside it, and change nothing.
func fails(t *testing.T, x *inodes.Inodes, m model, want api.Errno, calls ...call) {
	t.Helper()
	before, _ := x.New()
	for _, c := range calls {
		if got := c.do(x); got != (answer{err: want}) {
			t.Errorf("%s = %s; want error %d", c.brief(), got.brief(), want)
		}
		if c.want(maps.Clone(m)) != (answer{err: want}) {
			t.Errorf("the model tells something else of %s", c.brief())
		}
	}
	holds(t, "behind calls that fail", x, m)
	isNew(t, "behind calls that fail", x, before)
}

// isNew asks how much is new.
func isNew(t *testing.T, what string, x *inodes.Inodes, want int) {
	t.Helper()
	if n, err := x.New(); n != want || err != api.OK {
		t.Errorf("%s: New = %d, %d; want %d", what, n, err, want)
	}
}

// putFile makes a file with bytes in both.
func putFile(t *testing.T, x *inodes.Inodes, m model, s string) int {
	t.Helper()
	return put(t, x, m, thing{kind: api.KindFile, stamp: 1, bytes: s})
}

// putDir makes a directory with entries in both.
func putDir(t *testing.T, x *inodes.Inodes, m model, l []api.Link) int {
	t.Helper()
	return put(t, x, m, thing{kind: api.KindDir, stamp: 1, entries: l})
}

// put makes an inode in both, by the calls of layer 15 alone.
func put(t *testing.T, x *inodes.Inodes, m model, f thing) int {
	t.Helper()
	n, err := x.Make(f.kind, f.stamp)
	if err != api.OK {
		t.Fatal(err)
	}
	text := f.text()
	if err := x.Resize(n, len(text), f.stamp); err != api.OK {
		t.Fatal(err)
	}
	for first := 0; first < len(text); first += 256 {
		var b api.Block
		copy(b[:], text[first:])
		if err := x.Set(n, first/256, b, f.stamp); err != api.OK {
			t.Fatal(err)
		}
	}
	m[n] = f
	return n
}

package branch_test

import (
	"maps"
	"slices"
	"sort"
	"strconv"
	"strings"
	"testing"

	"signet/api"
	"signet/inodes"
)

// thing is an inode by the chapters' words: what it is, and its entries by their places, or the bytes of a file.
type thing struct {
	kind, links int
	stamp       uint64
	entries     []api.Link
	bytes       string
}

// model is the inodes in use by their numbers, without a disk.
type model map[int]thing

// text is the bytes of an inode, by the words of chapter 13.
func (f thing) text() string {
	s := make([]byte, 64*len(f.entries))
	for i, e := range f.entries {
		b := s[64*i:]
		b[0], b[1] = byte(e.Inode), byte(e.Inode>>8)
		b[4] = byte(len(e.Name))
		copy(b[8:], e.Name)
	}
	return f.bytes + string(s)
}

// info is what x.Get tells of an inode.
func (m model) info(n int) api.Info {
	f := m[n]
	return api.Info{Number: n, Kind: f.kind, Links: f.links, Size: len(f.bytes) + 64*len(f.entries), Stamp: f.stamp}
}

// place is where a name's entry stands; -1, if there is none.
func (f thing) place(s string) int {
	return slices.IndexFunc(f.entries, func(e api.Link) bool { return e.Name == s })
}

// byNames is a directory's entries by their names.
func (m model) byNames(n int) []api.Link {
	l := slices.Clone(m[n].entries)
	sort.Slice(l, func(i, j int) bool { return l[i].Name < l[j].Name })
	return l
}

// isName tells whether a text is a name.
func isName(s string) bool {
	return len(s) >= 1 && len(s) <= 56 && s != "." && s != ".." && !strings.Contains(s, "\x00") && !strings.Contains(s, "/")
}

// read is the names of a path, and whether it asks for a directory.
func read(s string) ([]string, bool, api.Errno) {
	if len(s) > 1024 {
		return nil, false, api.ErrLong
	}
	if s == "" || s[0] != '/' {
		return nil, false, api.ErrPath
	}
	var l []string
	for _, part := range strings.Split(s, "/") {
		switch {
		case part == "" || part == ".":
		case part == "..":
			l = l[:max(0, len(l)-1)]
		case !isName(part):
			return nil, false, api.ErrName
		case len(l) == 32:
			return nil, false, api.ErrDeep
		default:
			l = append(l, part)
		}
	}
	end := s[strings.LastIndex(s, "/")+1:]
	return l, end == "" || end == "." || end == "..", api.OK
}

// walk is the inode that names reach.
func (m model) walk(names []string) (int, api.Errno) {
	n := 1
	for _, s := range names {
		f, is := m[n]
		if !is {
			return 0, api.ErrNone
		}
		if f.kind != api.KindDir {
			return 0, api.ErrDir
		}
		place := f.place(s)
		if place < 0 {
			return 0, api.ErrMissing
		}
		n = f.entries[place].Inode
	}
	if _, is := m[n]; !is {
		return 0, api.ErrNone
	}
	return n, api.OK
}

// lookup is the inode that a path names.
func (m model) lookup(s string) (int, api.Errno) {
	names, asks, err := read(s)
	if err != api.OK {
		return 0, err
	}
	n, err := m.walk(names)
	if err == api.OK && asks && m[n].kind != api.KindDir {
		return 0, api.ErrDir
	}
	return n, err
}

// number is the inode that a path names, which must be there.
func (m model) number(s string) int {
	n, err := m.lookup(s)
	if err != api.OK {
		panic("nothing is at " + s)
	}
	return n
}

// where is a path's parent, its last name, whether it asks, and what is there; 0, if nothing is.
type where struct {
	dir   int
	name  string
	asks  bool
	there int
}

// parent is where a path says.
func (m model) parent(s string) (where, api.Errno) {
	names, asks, err := read(s)
	if err != api.OK {
		return where{}, err
	}
	if len(names) == 0 {
		return where{}, api.ErrPath
	}
	last := len(names) - 1
	d, err := m.walk(names[:last])
	if err != api.OK {
		return where{}, err
	}
	if m[d].kind != api.KindDir {
		return where{}, api.ErrDir
	}
	w := where{dir: d, name: names[last], asks: asks}
	if place := m[d].place(w.name); place >= 0 {
		w.there = m[d].entries[place].Inode
	}
	return w, api.OK
}

// under tells whether a directory is another one, or lies beneath it: which has an entry of which is looked for from below.
func (m model) under(d, other int) bool {
	up := map[int]int{}
	for n, f := range m {
		for _, e := range f.entries {
			up[e.Inode] = n
		}
	}
	for ; d != 0; d = up[d] {
		if d == other {
			return true
		}
	}
	return false
}

// like is all that hangs beneath an inode as a text: of two that are the same it is the same.
func (m model) like(n int) string {
	if m[n].kind == api.KindFile {
		return strconv.Quote(m[n].bytes)
	}
	var s strings.Builder
	for _, e := range m.byNames(n) {
		s.WriteString(strconv.Quote(e.Name) + ":" + m.like(e.Inode) + " ")
	}
	return "{" + s.String() + "}"
}

// make is a new inode.
func (m model) make(kind int, stamp uint64) (int, api.Errno) {
	n := 1
	for m[n].kind != api.KindNone {
		n++
	}
	if n > 4096 {
		return 0, api.ErrInodes
	}
	m[n] = thing{kind: kind, links: 1, stamp: stamp}
	return n, api.OK
}

// add adds an entry behind the others.
func (m model) add(d, n int, name string, stamp uint64) api.Errno {
	f := m[d]
	if len(f.entries) == 16384 {
		return api.ErrFull
	}
	f.entries = append(slices.Clone(f.entries), api.Link{Inode: n, Name: name})
	f.stamp = stamp
	m[d] = f
	return api.OK
}

// remove takes an entry away, whose place the last one takes.
func (m model) remove(d int, name string, stamp uint64) {
	f := m[d]
	f.entries = slices.Clone(f.entries)
	last := len(f.entries) - 1
	f.entries[f.place(name)] = f.entries[last]
	f.entries = f.entries[:last]
	f.stamp = stamp
	m[d] = f
}

// swap gives a name another inode.
func (m model) swap(d, n int, name string, stamp uint64) {
	f := m[d]
	f.entries = slices.Clone(f.entries)
	f.entries[f.place(name)].Inode = n
	f.stamp = stamp
	m[d] = f
}

// link changes an inode's links, and drops it where none is left.
func (m model) link(n, by int, stamp uint64) {
	f := m[n]
	f.links += by
	f.stamp = stamp
	m[n] = f
	if f.links == 0 {
		delete(m, n)
	}
}

// plant is a model with the root, 1, and with what the lines say, numbered as they come: "/a/" is a directory, "/a" a file, "/b = /a" one more name of what there is, "/b = 77" a name of that number, whatever it is. An entry stands behind those that came before it. All have the stamp 1.
func plant(lines ...string) model {
	m := model{1: {kind: api.KindDir, links: 1, stamp: 1}}
	for _, line := range lines {
		m.grow(line)
	}
	return m
}

// grow adds what a line says.
func (m model) grow(line string) {
	s, other, links := strings.Cut(line, " = ")
	at, err := m.parent(s)
	if err != api.OK || at.there != 0 {
		panic("no path for " + line)
	}
	n := 0
	switch {
	case !links && at.asks:
		n, _ = m.make(api.KindDir, 1)
	case !links:
		n, _ = m.make(api.KindFile, 1)
		f := m[n]
		f.bytes = rep("bytes of "+s, 1+n*7%60)
		m[n] = f
	case other[0] == '/':
		n = m.number(other)
		if m[n].kind == api.KindFile {
			m.link(n, 1, 1)
		}
	default:
		for _, digit := range other {
			n = 10*n + int(digit-'0')
		}
	}
	m.add(at.dir, n, at.name, 1)
}

// numbers is those in use, rising.
func (m model) numbers() []int {
	return slices.Sorted(maps.Keys(m))
}

// laid is new inodes as the model says, by the calls of layer 15 alone.
func (s *stand) laid(m model) *inodes.Inodes {
	s.t.Helper()
	x := s.empty()
	all := m.numbers()
	high := 0
	if len(all) > 0 {
		high = all[len(all)-1]
	}
	for n := 1; n <= high; n++ {
		f, is := m[n]
		if !is {
			f.kind = api.KindFile
		}
		put(s.t, x, n, f)
	}
	for n := 1; n <= high; n++ {
		if _, is := m[n]; !is {
			x.Drop(n)
		}
	}
	return x
}

// put makes an inode, which must get that number.
func put(t *testing.T, x *inodes.Inodes, n int, f thing) {
	t.Helper()
	if got, err := x.Make(f.kind, f.stamp); got != n || err != api.OK {
		t.Fatalf("Make = %d, %d; want %d", got, err, n)
	}
	fill(t, x, n, f)
	if f.links > 1 && f.kind == api.KindFile {
		if err := x.Links(n, f.links-1, f.stamp); err != api.OK {
			t.Fatal(err)
		}
	}
}

// fill lays the bytes of an inode.
func fill(t *testing.T, x *inodes.Inodes, n int, f thing) {
	t.Helper()
	text := f.text()
	if err := x.Resize(n, len(text), f.stamp); err != api.OK {
		t.Fatal(err)
	}
	for first := 0; first < len(text); first += 256 {
		var b api.Block
		copy(b[:], text[first:])
		if err := x.Set(n, first/256, b, f.stamp); err != api.OK {
			t.Fatal(err)
		}
	}
}

// holds asks that inodes are as the model says, to the last bit that layer 15 tells.
func holds(t *testing.T, what string, x *inodes.Inodes, m model) {
	t.Helper()
	want := m.numbers()
	if all, err := x.All(); !slices.Equal(all, want) || err != api.OK {
		t.Fatalf("%s: in use are %v, %d; want %v", what, all, err, want)
	}
	for _, n := range want {
		if got, err := x.Get(n); got != m.info(n) || err != api.OK {
			t.Fatalf("%s: Get(%d) = %v, %d; want %v", what, n, got, err, m.info(n))
		}
		text := m[n].text()
		for place := 0; place <= len(text)/256 && place < 4096; place++ {
			var want api.Block
			copy(want[:], text[256*place:])
			if b, err := x.Leaf(n, place); b != want || err != api.OK {
				t.Fatalf("%s: the leaf %d of %d is another one, %d:\n%q; want\n%q", what, place, n, err, b, want)
			}
		}
	}
}

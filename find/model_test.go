package find_test

import (
	"slices"
	"sort"
	"strings"
	"testing"

	"signet/api"
	"signet/inodes"
)

// thing is an inode by the chapters' words: what it is, and its entries by their places, or the bytes of a file.
type thing struct {
	kind, links int
	stamp       uint64
	entries     []api.Link
	bytes       string
}

// model is the inodes in use by their numbers, without a disk, the positions that were read of them, and those at which nothing can be read.
type model struct {
	things   map[int]thing
	met, bad map[at]bool
}

// text is the bytes of an inode, by the words of chapter 13.
func (f thing) text() string {
	s := make([]byte, 64*len(f.entries))
	for i, e := range f.entries {
		b := s[64*i:]
		b[0], b[1] = byte(e.Inode), byte(e.Inode>>8)
		b[4] = byte(len(e.Name))
		copy(b[8:], e.Name)
	}
	return f.bytes + string(s)
}

// place is where a name's entry stands; -1, if there is none.
func (f thing) place(s string) int {
	return slices.IndexFunc(f.entries, func(e api.Link) bool { return e.Name == s })
}

// height is the least height of a tree with so many leaves.
func height(leaves int) int {
	h := 0
	for 1<<(2*h) < leaves {
		h++
	}
	return h
}

// way keeps that the positions on the way to a leaf are read, from the root on.
func (m model) way(number, height, leaf int) api.Errno {
	for level := height; level >= 0; level-- {
		p := at{number, level, leaf >> (2 * level)}
		m.met[p] = true
		if m.bad[p] {
			return api.ErrTampered
		}
	}
	return api.OK
}

// get is what x.Get tells, with its position in the table read.
func (m model) get(n int) (thing, api.Info, api.Errno) {
	if n < 1 || n > 4096 {
		return thing{}, api.Info{}, api.ErrNumber
	}
	high := 0
	for i := range m.things {
		high = max(high, i)
	}
	if leaves := (high + 3) / 4; (n-1)/4 < leaves {
		if err := m.way(0, height(leaves), (n-1)/4); err != api.OK {
			return thing{}, api.Info{}, err
		}
	}
	f, is := m.things[n]
	if !is {
		return thing{}, api.Info{}, api.ErrNone
	}
	return f, api.Info{Number: n, Kind: f.kind, Links: f.links, Size: len(f.text()), Stamp: f.stamp}, api.OK
}

// upTo keeps that a directory's leaves up to that of an entry are read.
func (m model) upTo(n, place int) api.Errno {
	leaves := (len(m.things[n].entries) + 3) / 4
	for leaf := 0; leaf < leaves && leaf <= place/4; leaf++ {
		if err := m.way(n, height(leaves), leaf); err != api.OK {
			return err
		}
	}
	return api.OK
}

// byNames is all entries of a directory in their order, all of them read.
func (m model) byNames(n int) ([]api.Link, api.Errno) {
	l := slices.Clone(m.things[n].entries)
	sort.Slice(l, func(i, j int) bool { return l[i].Name < l[j].Name })
	return l, m.upTo(n, len(l))
}

// isName tells whether a text is a name.
func isName(s string) bool {
	return len(s) >= 1 && len(s) <= 56 && s != "." && s != ".." && !strings.Contains(s, "\x00") && !strings.Contains(s, "/")
}

// matches tells whether a text is a pattern: byte by byte of the pattern, which beginnings of the text it takes so far.
func matches(pattern, s string) bool {
	takes := make([]bool, len(s)+1)
	takes[0] = true
	for _, p := range []byte(pattern) {
		next := make([]bool, len(s)+1)
		for i := range next {
			if p == '*' {
				next[i] = takes[i] || i > 0 && next[i-1]
			} else {
				next[i] = i > 0 && takes[i-1] && (p == '?' || p == s[i-1])
			}
		}
		takes = next
	}
	return takes[len(s)]
}

// read is the names of a path, and whether it asks for a directory.
func read(s string) ([]string, bool, api.Errno) {
	if len(s) > 1024 {
		return nil, false, api.ErrLong
	}
	if s == "" || s[0] != '/' {
		return nil, false, api.ErrPath
	}
	var l []string
	for _, part := range strings.Split(s, "/") {
		switch {
		case part == "" || part == ".":
		case part == "..":
			l = l[:max(0, len(l)-1)]
		case !isName(part):
			return nil, false, api.ErrName
		case len(l) == 32:
			return nil, false, api.ErrDeep
		default:
			l = append(l, part)
		}
	}
	end := s[strings.LastIndex(s, "/")+1:]
	return l, end == "" || end == "." || end == "..", api.OK
}

// walk is the inodes on the way by names, and the places of the entries.
func (m model) walk(names []string) ([]int, []int, api.Errno) {
	for _, s := range names {
		if !isName(s) {
			return nil, nil, api.ErrName
		}
	}
	inodes, places := []int{1}, []int{}
	for i, s := range names {
		n := inodes[i]
		f, _, err := m.get(n)
		if err != api.OK {
			return nil, nil, err
		}
		if f.kind != api.KindDir {
			return nil, nil, api.ErrDir
		}
		place := f.place(s)
		last := place
		if place < 0 {
			last = len(f.entries)
		}
		if err := m.upTo(n, last); err != api.OK {
			return nil, nil, err
		}
		if place < 0 {
			return nil, nil, api.ErrMissing
		}
		inodes, places = append(inodes, f.entries[place].Inode), append(places, place)
	}
	return inodes, places, api.OK
}

// reached is what names reach, where perhaps a directory is asked for.
func (m model) reached(names []string, dir bool) (api.Info, api.Errno) {
	way, _, err := m.walk(names)
	if err != api.OK {
		return api.Info{}, err
	}
	f, i, err := m.get(way[len(way)-1])
	if err == api.OK && dir && f.kind != api.KindDir {
		return api.Info{}, api.ErrDir
	}
	return i, err
}

// oneForm is the one form of names.
func oneForm(names []string) string {
	return "/" + strings.Join(names, "/")
}

// left is what is still to be gone over: names and an inode.
type left struct {
	names []string
	inode int
}

// all is all that there is, so many at most, and the error that was met behind them. What is still to be gone over is a list, whose front is next.
func (m model) all(most int) ([]api.Found, api.Errno) {
	var found []api.Found
	gone := map[int]bool{}
	for list := []left{{nil, 1}}; len(list) > 0; {
		next := list[0]
		list = list[1:]
		f, i, err := m.get(next.inode)
		if err != api.OK {
			return found, err
		}
		found = append(found, api.Found{Path: oneForm(next.names), Info: i})
		if len(found) == most {
			return found, api.OK
		}
		if f.kind != api.KindDir || gone[next.inode] {
			continue
		}
		gone[next.inode] = true
		entries, err := m.byNames(next.inode)
		if err != api.OK {
			return found, err
		}
		var l []left
		for _, e := range entries {
			names := append(slices.Clone(next.names), e.Name)
			if len(names) <= 32 && len(oneForm(names)) <= 1024 {
				l = append(l, left{names, e.Inode})
			}
		}
		list = append(l, list...)
	}
	return found, api.OK
}

// never is more things than all would tell.
const never = 1 << 40

// glob is what a path of patterns reaches: depth first, with what is taken for each part counted apart.
func (m model) glob(s string) ([]api.Found, api.Errno) {
	if len(s) > 1024 {
		return nil, api.ErrLong
	}
	if s == "" || s[0] != '/' {
		return nil, api.ErrPath
	}
	parts := slices.DeleteFunc(strings.Split(s, "/"), func(p string) bool { return p == "" })
	if len(parts) > 32 {
		return nil, api.ErrDeep
	}
	var found []api.Found
	counts := make([]int, len(parts))
	var from func(names []string, n int) api.Errno
	from = func(names []string, n int) api.Errno {
		f, i, err := m.get(n)
		if err != api.OK {
			return err
		}
		part := len(names)
		if part == len(parts) {
			found = append(found, api.Found{Path: oneForm(names), Info: i})
			return api.OK
		}
		if f.kind != api.KindDir {
			return api.OK
		}
		entries, err := m.byNames(n)
		if err != api.OK {
			return err
		}
		for _, e := range entries {
			if !matches(parts[part], e.Name) {
				continue
			}
			if counts[part]++; counts[part] > 4096 {
				return api.ErrMany
			}
			if err := from(append(slices.Clone(names), e.Name), e.Inode); err != api.OK {
				return err
			}
		}
		return api.OK
	}
	if err := from(nil, 1); err != api.OK {
		return nil, err
	}
	return found, api.OK
}

// plant is a model with the root, 1, and with what the lines say, numbered as they come: "/a/" is a directory, "/a" a file, "/b = /a" one more name of what there is, "/b = 77" a name of that number, whatever it is. An entry stands behind those that came before it.
func plant(lines ...string) model {
	m := model{map[int]thing{1: {kind: api.KindDir, links: 1, stamp: 1}}, map[at]bool{}, map[at]bool{}}
	for _, line := range lines {
		m.add(line)
	}
	return m
}

// add adds what a line says.
func (m model) add(line string) {
	s, other, links := strings.Cut(line, " = ")
	names, dir, err := read(s)
	if err != api.OK {
		panic("no path: " + line)
	}
	last := len(names) - 1
	n := len(m.things) + 1
	for m.things[n].kind != api.KindNone {
		n++
	}
	switch {
	case !links && dir:
		m.things[n] = thing{kind: api.KindDir, links: 1, stamp: uint64(n)}
	case !links:
		m.things[n] = thing{kind: api.KindFile, links: 1, stamp: uint64(n), bytes: rep("bytes of "+s, 5+n%40)}
	case other[0] == '/':
		n = m.number(other)
		if f := m.things[n]; f.kind == api.KindFile {
			f.links++
			m.things[n] = f
		}
	default:
		n = 0
		for _, digit := range other {
			n = 10*n + int(digit-'0')
		}
	}
	up := m.number(oneForm(names[:last]))
	d := m.things[up]
	d.entries = append(d.entries, api.Link{Inode: n, Name: names[last]})
	m.things[up] = d
}

// number is the number of what a path names.
func (m model) number(s string) int {
	names, _, _ := read(s)
	way, _, err := m.walk(names)
	if err != api.OK {
		panic("nothing is at " + s)
	}
	return way[len(way)-1]
}

// free takes an inode out of the model; its entries stay.
func (m model) free(n int) {
	delete(m.things, n)
}

// laid is new inodes as the model says, by the calls of layer 15 alone.
func (s *stand) laid(m model) *inodes.Inodes {
	s.t.Helper()
	x := s.open(api.Tree{}, 0)
	high := 0
	for n := range m.things {
		high = max(high, n)
	}
	for n := 1; n <= high; n++ {
		f, is := m.things[n]
		if !is {
			f.kind = api.KindFile
		}
		put(s.t, x, n, f)
	}
	for n := 1; n <= high; n++ {
		if _, is := m.things[n]; !is {
			x.Drop(n)
		}
	}
	return x
}

// put makes an inode, which must get that number.
func put(t *testing.T, x *inodes.Inodes, n int, f thing) {
	t.Helper()
	if got, err := x.Make(f.kind, f.stamp); got != n || err != api.OK {
		t.Fatalf("Make = %d, %d; want %d", got, err, n)
	}
	text := f.text()
	if err := x.Resize(n, len(text), f.stamp); err != api.OK {
		t.Fatal(err)
	}
	for first := 0; first < len(text); first += 256 {
		var b api.Block
		copy(b[:], text[first:])
		if err := x.Set(n, first/256, b, f.stamp); err != api.OK {
			t.Fatal(err)
		}
	}
	if f.links > 1 && f.kind == api.KindFile {
		if err := x.Links(n, f.links-1, f.stamp); err != api.OK {
			t.Fatal(err)
		}
	}
}

// holds asks that inodes are as the model says, to the last bit that layer 15 tells.
func holds(t *testing.T, what string, x *inodes.Inodes, m model) {
	t.Helper()
	var want []int
	for n := range m.things {
		want = append(want, n)
	}
	slices.Sort(want)
	if all, err := x.All(); !slices.Equal(all, want) || err != api.OK {
		t.Fatalf("%s: All = %v, %d; want %v", what, all, err, want)
	}
	for _, n := range want {
		_, i, _ := m.get(n)
		if got, err := x.Get(n); got != i || err != api.OK {
			t.Fatalf("%s: Get(%d) = %v, %d; want %v", what, n, got, err, i)
		}
		text := m.things[n].text()
		for place := 0; place <= len(text)/256 && place < 4096; place++ {
			var want api.Block
			copy(want[:], text[256*place:])
			if b, err := x.Leaf(n, place); b != want || err != api.OK {
				t.Fatalf("%s: the leaf %d of %d is another one, %d", what, place, n, err)
			}
		}
	}
}

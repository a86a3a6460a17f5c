package file_test

import (
	"fmt"
	"maps"
	"slices"
	"strings"
	"testing"

	"signet/api"
	"signet/file"
	"signet/inodes"
)

// thing is an inode by the chapter's words: what it is, and its bytes. Its size is how many they are.
type thing struct {
	kind, links int
	stamp       uint64
	bytes       string
}

// model is the inodes in use, by their numbers.
type model map[int]thing

// answer is all that a call may tell.
type answer struct {
	text  string
	n     int
	same  bool
	holes string
	err   api.Errno
}

// brief is enough of an answer to tell it.
func (a answer) brief() string {
	text := a.text
	if len(text) > 20 {
		text = fmt.Sprintf("%.10s..%s (%d bytes)", text, text[len(text)-5:], len(text))
	}
	return fmt.Sprintf("{%q %d %v %.100s, error %d}", text, a.n, a.same, a.holes, a.err)
}

// call is a call and what is handed in to it.
type call struct {
	op    string
	n, at int
	many  int
	to    int
	place int
	s     string
	stamp uint64
}

// brief is enough of a call to tell it.
func (c call) brief() string {
	s := c.s
	if len(s) > 10 {
		s = fmt.Sprintf("%.10s.. (%d bytes)", s, len(s))
	}
	return fmt.Sprintf("%s{n %d, at %d, many %d, to %d, place %d, %q}", c.op, c.n, c.at, c.many, c.to, c.place, s)
}

// ops is all calls of the package.
var ops = []string{"Read", "Write", "Append", "Truncate", "Zero", "Size", "Same", "Insert", "Remove", "Copy", "Find", "Holes"}

// two tells whether a call is handed two numbers: n and to.
func (c call) two() bool {
	return c.op == "Same" || c.op == "Copy"
}

// do is the call; Truncate is handed many as its size.
func (c call) do(x *inodes.Inodes) (a answer) {
	switch c.op {
	case "Read":
		a.text, a.err = file.Read(x, c.n, c.at, c.many)
	case "Write":
		a.n, a.err = file.Write(x, c.n, c.at, c.s, c.stamp)
	case "Append":
		a.n, a.err = file.Append(x, c.n, c.s, c.stamp)
	case "Truncate":
		a.err = file.Truncate(x, c.n, c.many, c.stamp)
	case "Zero":
		a.err = file.Zero(x, c.n, c.at, c.many, c.stamp)
	case "Size":
		a.n, a.err = file.Size(x, c.n)
	case "Same":
		a.same, a.err = file.Same(x, c.n, c.to)
	case "Insert":
		a.err = file.Insert(x, c.n, c.at, c.s, c.stamp)
	case "Remove":
		a.n, a.err = file.Remove(x, c.n, c.at, c.many, c.stamp)
	case "Copy":
		a.n, a.err = file.Copy(x, c.n, c.at, c.many, c.to, c.place, c.stamp)
	case "Find":
		a.n, a.err = file.Find(x, c.n, c.at, c.s)
	case "Holes":
		var l []api.Run
		l, a.err = file.Holes(x, c.n)
		a.holes = told(l)
	default:
		panic("no call: " + c.op)
	}
	return a
}

// told is stretches as a text.
func told(l []api.Run) string {
	if len(l) == 0 {
		return ""
	}
	return fmt.Sprint(l)
}

// get is what x.Get tells.
func (m model) get(n int) (thing, api.Errno) {
	if n < 1 || n > 4096 {
		return thing{}, api.ErrNumber
	}
	f, is := m[n]
	if !is {
		return thing{}, api.ErrNone
	}
	return f, api.OK
}

// want is what the call must tell; the model is changed as it says.
func (c call) want(m model) answer {
	f, err := m.get(c.n)
	if err != api.OK {
		return answer{err: err}
	}
	g := f
	if c.two() {
		if g, err = m.get(c.to); err != api.OK {
			return answer{err: err}
		}
	}
	if f.kind == api.KindDir || g.kind == api.KindDir {
		return answer{err: api.ErrIsDir}
	}
	a, changed := c.wantOf(f, g)
	if changed != nil {
		changed.stamp = c.stamp
		number := c.n
		if c.op == "Copy" {
			number = c.to
		}
		m[number] = *changed
	}
	return a
}

// wantOf is what the call must tell of files, and what the one is that it changes, if it changes one.
func (c call) wantOf(f, g thing) (answer, *thing) {
	arg, big := answer{err: api.ErrArg}, answer{err: api.ErrBig}
	size := len(f.bytes)
	switch c.op {
	case "Read":
		if c.at < 0 || c.many < 0 {
			return arg, nil
		}
		return answer{text: f.cut(c.at, c.many)}, nil
	case "Size":
		return answer{n: size}, nil
	case "Same":
		return answer{same: f.bytes == g.bytes}, nil
	case "Write":
		if c.at < 0 {
			return arg, nil
		}
		if over(c.at, len(c.s)) {
			return big, nil
		}
		return answer{n: c.at + len(c.s)}, f.with(c.at, c.s)
	case "Append":
		if over(size, len(c.s)) {
			return big, nil
		}
		return answer{n: size}, f.with(size, c.s)
	case "Truncate":
		if c.many < 0 {
			return arg, nil
		}
		if c.many > 1048576 {
			return big, nil
		}
		f.bytes = (f.bytes + zeros(c.many))[:c.many]
		return answer{}, &f
	case "Zero":
		if c.at < 0 || c.many < 0 {
			return arg, nil
		}
		return answer{}, f.with(c.at, zeros(len(f.cut(c.at, c.many))))
	}
	return c.wantMoved(f, g)
}

// wantMoved is the same of the calls that move bytes, and look for them.
func (c call) wantMoved(f, g thing) (answer, *thing) {
	arg, big := answer{err: api.ErrArg}, answer{err: api.ErrBig}
	size := len(f.bytes)
	switch c.op {
	case "Insert":
		if c.at < 0 || c.at > size {
			return arg, nil
		}
		if over(size, len(c.s)) {
			return big, nil
		}
		if c.s == "" {
			return answer{}, nil
		}
		f.bytes = f.bytes[:c.at] + c.s + f.bytes[c.at:]
		return answer{}, &f
	case "Remove":
		if c.at < 0 || c.many < 0 {
			return arg, nil
		}
		gone := len(f.cut(c.at, c.many))
		if gone == 0 {
			return answer{}, nil
		}
		f.bytes = f.bytes[:c.at] + f.bytes[c.at+gone:]
		return answer{n: gone}, &f
	case "Copy":
		if c.at < 0 || c.many < 0 || c.place < 0 {
			return arg, nil
		}
		s := f.cut(c.at, c.many)
		if over(c.place, len(s)) {
			return big, nil
		}
		return answer{n: len(s)}, g.with(c.place, s)
	case "Find":
		if c.at < 0 {
			return arg, nil
		}
		if c.at > size {
			return answer{n: -1}, nil
		}
		n := strings.Index(f.bytes[c.at:], c.s)
		if n >= 0 {
			n += c.at
		}
		return answer{n: n}, nil
	case "Holes":
		return answer{holes: told(f.holes())}, nil
	}
	panic("no call: " + c.op)
}

// over tells whether two numbers, none below 0, are more together than a file may have.
func over(a, b int) bool {
	return uint64(a)+uint64(b) > 1048576
}

// cut is the bytes of a range that are there.
func (f thing) cut(at, many int) string {
	if at >= len(f.bytes) {
		return ""
	}
	rest := f.bytes[at:]
	if many < len(rest) {
		return rest[:many]
	}
	return rest
}

// with is a file with bytes laid into it; none, if there are none of them.
func (f thing) with(at int, s string) *thing {
	if s == "" {
		return nil
	}
	if at > len(f.bytes) {
		f.bytes += zeros(at - len(f.bytes))
	}
	rest := ""
	if at+len(s) < len(f.bytes) {
		rest = f.bytes[at+len(s):]
	}
	f.bytes = f.bytes[:at] + s + rest
	return &f
}

// holes is the stretches of leaves that are zeros.
func (f thing) holes() []api.Run {
	var l []api.Run
	open := false
	for i := 0; i*256 < len(f.bytes); i++ {
		leaf := f.bytes[i*256 : min(len(f.bytes), i*256+256)]
		zero := leaf == zeros(len(leaf))
		switch {
		case zero && open:
			l[len(l)-1].To = i
		case zero:
			l = append(l, api.Run{From: i, To: i})
		}
		open = zero
	}
	return l
}

// info is what Get must tell.
func (f thing) info(n int) api.Info {
	return api.Info{Number: n, Kind: f.kind, Links: f.links, Size: len(f.bytes), Stamp: f.stamp}
}

// holds asks that inodes are as the model says, to the last bit that layer 15 tells.
func holds(t *testing.T, what string, x *inodes.Inodes, m model) {
	t.Helper()
	all, err := x.All()
	if want := slices.Sorted(maps.Keys(m)); !slices.Equal(all, want) || err != api.OK {
		t.Fatalf("%s: All = %v, %d; want %v", what, all, err, want)
	}
	for n, f := range m {
		if i, err := x.Get(n); i != f.info(n) || err != api.OK {
			t.Fatalf("%s: Get(%d) = %v, %d; want %v", what, n, i, err, f.info(n))
		}
		for place := 0; place <= len(f.bytes)/256+1 && place < 4096; place++ {
			var want api.Block
			if first := 256 * place; first < len(f.bytes) {
				copy(want[:], f.bytes[first:])
			}
			if b, err := x.Leaf(n, place); b != want || err != api.OK {
				t.Fatalf("%s: the leaf %d of %d is another one: %d..%d; want %d..%d; error %d", what, place, n, b[0], b[255], want[0], want[255], err)
			}
		}
	}
}

// check makes a call on inodes and on the model, and asks that they tell the same, and are the same behind it.
func check(t *testing.T, x *inodes.Inodes, m model, c call) {
	t.Helper()
	if got, want := c.do(x), c.want(m); got != want {
		t.Fatalf("%s = %s; want %s", c.brief(), got.brief(), want.brief())
	}
}

// apart makes a call on a clone of both, and asks that all there is as it must be.
func apart(t *testing.T, x *inodes.Inodes, m model, c call) {
	t.Helper()
	y, e := x.Clone(), maps.Clone(m)
	check(t, y, e, c)
	holds(t, c.brief(), y, e)
}

// put makes an inode with bytes in both.
func put(t *testing.T, x *inodes.Inodes, m model, kind int, s string) int {
	t.Helper()
	n, err := x.Make(kind, 1)
	if err != api.OK {
		t.Fatal(err)
	}
	if err := x.Resize(n, len(s), 1); err != api.OK {
		t.Fatal(err)
	}
	for first := 0; first < len(s); first += 256 {
		var b api.Block
		copy(b[:], s[first:])
		if err := x.Set(n, first/256, b, 1); err != api.OK {
			t.Fatal(err)
		}
	}
	m[n] = thing{kind: kind, links: 1, stamp: 1, bytes: s}
	return n
}

package find_test

import (
	"cmp"
	"fmt"
	"maps"
	"math/rand"
	"slices"
	"strings"
	"testing"

	"signet/api"
)

// drawnTree is a tree of directories and files as they come: with several names, loops, and things that are nowhere; now and then an entry of nothing.
func drawnTree(r *rand.Rand) model {
	m := plant()
	many := 2 + r.Intn(12)
	for n := 2; n <= many; n++ {
		f := thing{kind: api.KindFile, links: 1 + r.Intn(3), stamp: uint64(r.Intn(9)), bytes: rep("b", r.Intn(600))}
		if r.Intn(2) == 0 {
			f = thing{kind: api.KindDir, links: 1, stamp: uint64(r.Intn(9))}
		}
		m.things[n] = f
	}
	for n := 1; n <= many; n++ {
		d := m.things[n]
		if d.kind != api.KindDir {
			continue
		}
		for range r.Intn(7) {
			e := api.Link{Inode: 1 + r.Intn(many), Name: drawnName(r)}
			if r.Intn(60) == 0 {
				e.Inode = many + 1 + r.Intn(3)
			}
			if d.place(e.Name) < 0 {
				d.entries = append(d.entries, e)
			}
		}
		m.things[n] = d
	}
	return m
}

// drawnName is a name, most of them short, so that they are met again.
func drawnName(r *rand.Rand) string {
	if r.Intn(25) == 0 {
		return long(string(rune('a' + r.Intn(4))))
	}
	return []string{"a", "b", "c", "ab", "a.b", "...", "*", "?", "é", "\xff", "B"}[r.Intn(11)]
}

// drawnPath is a path as it comes: mostly of names, now and then with stops, stars and what no path has.
func drawnPath(r *rand.Rand) string {
	var s strings.Builder
	for range r.Intn(6) + r.Intn(30)/29*r.Intn(40) {
		switch r.Intn(12) {
		case 0:
			s.WriteString([]string{"/..", "/.", "//", "/\x00", "/" + rep("n", 57)}[r.Intn(5)])
		case 1, 2:
			s.WriteString([]string{"/*", "/?", "/a*", "/*b"}[r.Intn(4)])
		default:
			s.WriteString("/" + drawnName(r))
		}
	}
	if r.Intn(6) == 0 {
		s.WriteString([]string{"/", "/.", "/..", "a"}[r.Intn(4)])
	}
	if r.Intn(20) > 0 && !strings.HasPrefix(s.String(), "/") {
		return "/" + s.String()
	}
	return s.String()
}

// drawnCall is a call as it comes.
func drawnCall(r *rand.Rand, many int) call {
	switch r.Intn(8) {
	case 0:
		return []call{{op: "All"}, {op: "Each", n: 1 + r.Intn(20)}, {op: "Each", n: never}}[r.Intn(3)]
	case 1:
		return call{op: "Paths", n: r.Intn(many + 3)}
	case 2, 3:
		return call{op: "Glob", s: drawnPath(r)}
	case 4:
		return call{op: "Parent", s: drawnPath(r)}
	case 5:
		return call{op: "Lookup", s: drawnPath(r)}
	}
	var names []string
	for range r.Intn(5) {
		names = append(names, drawnName(r))
	}
	if r.Intn(9) == 0 {
		names = append(names, noNames[r.Intn(len(noNames))])
	}
	return walks(names...)[r.Intn(2)]
}

// hasNothing tells whether a tree has an entry of an inode that is not in use.
func (m model) hasNothing() bool {
	for _, d := range m.things {
		if slices.ContainsFunc(d.entries, func(e api.Link) bool { return m.things[e.Inode].kind == api.KindNone }) {
			return true
		}
	}
	return false
}

// agrees tells whether a call told what it must. Which of the errors on its ways a Glob meets first hangs on how it goes, and the model goes otherwise.
func (c call) agrees(got, want answer) bool {
	if c.op == "Glob" && got.err != api.OK && want.err != api.OK {
		want.err = got.err
	}
	return got == want
}

// Trees and calls as they come, on inodes that were made and on committed ones, tell what the model does.
func TestDrawn(t *testing.T) {
	r := rand.New(rand.NewSource(19))
	oks := map[string]int{}
	for range 400 {
		m := drawnTree(r)
		s := made(t, 128, r.Intn(9))
		x := s.laid(m)
		if r.Intn(2) == 0 {
			x, _ = s.commit(x)
		}
		for range 60 {
			c := drawnCall(r, len(m.things))
			got, want := c.do(x), c.want(m)
			if !c.agrees(got, want) {
				t.Fatalf("%s = %s; want %s", c.brief(), got.brief(), want.brief())
			}
			if got.err == api.OK {
				oks[c.op]++
			}
		}
		if !m.hasNothing() {
			follows(t, x)
		}
	}
	for _, op := range []string{"Walk", "Chain", "Lookup", "Parent", "All", "Each", "Paths", "Glob"} {
		if oks[op] < 200 {
			t.Error(fmt.Sprint("only ", oks[op], " calls of ", op, " were OK"))
		}
	}
}

// rising is positions in an order that is the same each time.
func rising(refs map[at]api.Ref) []at {
	return slices.SortedFunc(maps.Keys(refs), func(a, b at) int {
		return cmp.Or(a.number-b.number, a.level-b.level, a.place-b.place)
	})
}

// Blocks that are written over as it comes: each answer is the right one, or ErrTampered.
func TestDrawnFaults(t *testing.T) {
	r := rand.New(rand.NewSource(91))
	for range 60 {
		m := drawnTree(r)
		s := made(t, 128, 0)
		_, out := s.commit(s.laid(m))
		refs, image := s.refs(out.Table), s.d.Image()
		for range 20 {
			for _, p := range rising(refs) {
				if r.Intn(8) == 0 {
					s.over(refs[p].At, junk())
					m.bad[p] = true
				}
			}
			for range 6 {
				c := drawnCall(r, len(m.things))
				got, want := c.do(s.open(out.Table, out.High)), c.want(m)
				if !c.agrees(got, want) {
					t.Fatalf("%s, with %v written over = %s; want %s", c.brief(), m.bad, got.brief(), want.brief())
				}
			}
			clear(m.bad)
			s.d.Load(image)
		}
	}
}

package find_test

import (
	"math"
	"testing"

	"signet/api"
	"signet/find"
)

// 19.4

// On nil Inodes all is ErrArg, ahead of all else that is wrong, with nothing beside it.
func TestNilInodes(t *testing.T) {
	var calls []call
	for _, s := range append([]string{"a", "d"}, noNames...) {
		calls = append(calls, walks(s)...)
		calls = append(calls, walks("d", s)...)
	}
	calls = append(calls, walks()...)
	for _, op := range []string{"Lookup", "Parent", "Glob"} {
		calls = append(calls, of(op, "/", "/a", "/a/b/", "/*", rep("/a", 33))...)
		for _, c := range noPath {
			calls = append(calls, call{op: op, s: c.s})
		}
	}
	for _, n := range []int{-1, 0, 1, 2, api.MaxInodes, api.MaxInodes + 1, math.MinInt, math.MaxInt} {
		calls = append(calls, call{op: "Paths", n: n}, call{op: "Each", n: n})
	}
	calls = append(calls, call{op: "All"})
	for _, c := range calls {
		if got := c.do(nil); got != (answer{err: api.ErrArg}) {
			t.Errorf("%s on nil = %s; want ErrArg", c.brief(), got.brief())
		}
	}
	if err := find.Each(nil, nil); err != api.ErrArg {
		t.Errorf("Each(nil, nil) = %d; want ErrArg", err)
	}
}

// Lists beside an error are empty, not only told to be.
func TestListsBesideErrors(t *testing.T) {
	x := made(t, 64, 8).laid(plant("/d/", "/d/e/", "/d/e/f", "/d/gone = 9"))
	for _, names := range [][]string{{"d", "missing"}, {"d", "e", "f", "g"}, {"d", ""}} {
		if way, places, err := find.Chain(x, names); len(way) != 0 || len(places) != 0 || err == api.OK {
			t.Errorf("Chain(%q) = %v, %v, %d", names, way, places, err)
		}
	}
	for _, s := range []string{"/d/e/f/g", "/missing/a", "/", "", "/d/gone/a"} {
		if n, last, p, err := find.Parent(x, s); n != 0 || last != "" || len(p.Names) != 0 || p.Dir || err == api.OK {
			t.Errorf("Parent(%q) = %d, %q, %v, %d", s, n, last, p, err)
		}
	}
	if l, err := find.All(x); len(l) != 0 || err != api.ErrNone {
		t.Errorf("All = %v, %d", l, err)
	}
	if l, err := find.Paths(x, 1); len(l) != 0 || err != api.ErrNone {
		t.Errorf("Paths = %v, %d", l, err)
	}
	if l, err := find.Glob(x, "/d/*"); len(l) != 0 || err != api.ErrNone {
		t.Errorf("Glob = %v, %d", l, err)
	}
}

package path_test

import (
	"math/rand/v2"
	"slices"
	"testing"

	"signet/api"
	"signet/path"
)

// 18.3

func wantSplit(t *testing.T, s string, names []string, last string, wantErr api.Errno) {
	t.Helper()
	p, got, err := path.Split(s)
	if !slices.Equal(p.Names, names) || p.Dir != (wantErr == api.OK) || got != last || err != wantErr {
		t.Errorf("Split(%q) = %v, %q, %d; want %q, %q, %d", cut(s), p, got, err, names, last, wantErr)
	}
}

func TestSplit(t *testing.T) {
	for _, c := range []struct {
		s     string
		names []string
		last  string
	}{
		{"/a", nil, "a"}, {"/a/", nil, "a"}, {"//a//", nil, "a"}, {"/a/.", nil, "a"}, {"/./a", nil, "a"}, {"/../a", nil, "a"}, {"/a/b/..", nil, "a"}, {"/b/../a", nil, "a"},
		{"/a/b", []string{"a"}, "b"}, {"/a/b/", []string{"a"}, "b"}, {"/a/./b/.", []string{"a"}, "b"}, {"/a/b/c/../", []string{"a"}, "b"}, {"/a/a/a", []string{"a", "a"}, "a"},
		{"/a/...", []string{"a"}, "..."}, {"/x/" + long("y"), []string{"x"}, long("y")}, {deep(32), names(31), names(32)[31]}, {deep(32) + "/..", names(30), names(31)[30]},
	} {
		wantSplit(t, c.s, c.names, c.last, api.OK)
	}
}

func TestSplitWithoutNames(t *testing.T) {
	for _, s := range []string{"/", "//", "/.", "/..", "/./", "/../", "/a/..", "/a/../..", "/a/b/../../", rep("/", 1024), rep("/..", 341), deep(32) + rep("/..", 32)} {
		wantSplit(t, s, nil, "", api.ErrPath)
	}
}

func TestSplitOfWhatIsNoPath(t *testing.T) {
	for s, err := range map[string]api.Errno{
		"": api.ErrPath, "a": api.ErrPath, "a/b": api.ErrPath, rep("/", 1025): api.ErrLong, rep("b", 1025): api.ErrLong, "/\x00/..": api.ErrName, "/a/" + long("") + "x": api.ErrName, deep(33): api.ErrDeep, deep(33) + rep("/..", 33): api.ErrDeep,
	} {
		wantSplit(t, s, nil, "", err)
	}
}

func TestSplitOfManyTexts(t *testing.T) {
	check := func(s string) {
		t.Helper()
		want := read(s)
		switch many := len(want.names); {
		case want.err != api.OK:
			wantSplit(t, s, nil, "", want.err)
		case many == 0:
			wantSplit(t, s, nil, "", api.ErrPath)
		default:
			wantSplit(t, s, want.names[:many-1], want.names[many-1], api.OK)
		}
	}
	for _, s := range append(edges(), texts([]string{"/", ".", "a"}, 8)...) {
		check(s)
	}
	r := rand.New(rand.NewPCG(18, 3))
	for range 30000 {
		check(drawn(r))
	}
}

func TestWithin(t *testing.T) {
	for _, c := range []struct {
		a, b []string
		want bool
	}{
		{nil, nil, true}, {[]string{}, nil, true}, {nil, []string{}, true},
		{[]string{"a"}, nil, true}, {nil, []string{"a"}, false}, {nil, []string{""}, false}, {[]string{""}, nil, true}, {[]string{""}, []string{""}, true},
		{[]string{"a"}, []string{"a"}, true}, {[]string{"a", "b"}, []string{"a", "b"}, true}, {[]string{"a", "b"}, []string{"a"}, true}, {[]string{"a", "b", "c"}, []string{"a"}, true}, {[]string{"a", "b", "c"}, []string{"a", "b"}, true},
		{[]string{"a"}, []string{"a", "b"}, false}, {[]string{"a"}, []string{"b"}, false}, {[]string{"a", "b"}, []string{"b"}, false}, {[]string{"a", "b"}, []string{"a", "c"}, false}, {[]string{"a", "b", "c"}, []string{"a", "x", "c"}, false}, {[]string{"x", "b"}, []string{"a", "b"}, false}, {[]string{"a", "b", "c"}, []string{"b", "c"}, false},
		{[]string{"ab"}, []string{"a"}, false}, {[]string{"a"}, []string{"ab"}, false}, {[]string{"ab", "c"}, []string{"a", "b"}, false}, {[]string{"a/b"}, []string{"a"}, false}, {[]string{"a", "b"}, []string{"a/b"}, false}, {[]string{"A"}, []string{"a"}, false},
		{names(100), names(99), true}, {names(99), names(100), false}, {names(100), names(100), true},
	} {
		for dirs := range 4 {
			a, b := api.Path{Names: c.a, Dir: dirs&1 > 0}, api.Path{Names: c.b, Dir: dirs&2 > 0}
			if got := path.Within(a, b); got != c.want {
				t.Errorf("Within(%v, %v) = %v", a, b, got)
			}
		}
	}
}

func TestWithinOfAllShortLists(t *testing.T) {
	for _, a := range lists() {
		for _, b := range lists() {
			want := slices.Equal(a[:min(len(a), len(b))], b)
			if got := path.Within(api.Path{Names: a}, api.Path{Names: b}); got != want {
				t.Errorf("Within(%q, %q) = %v", a, b, got)
			}
		}
	}
}

func TestSame(t *testing.T) {
	for _, l := range [][]string{
		{"/", "//", "/.", "/..", "/./", "/a/..", "/a/b/../..", "/../../", rep("/", 1024)},
		{"/a", "/a/", "//a", "/./a", "/../a", "/a/.", "/a/b/..", "/b/../a", "/a/b/../"},
		{"/b", "/b/", "/a/../b"}, {"/a/b", "/a/b/", "/a//b", "/a/./b", "/a/c/../b"}, {"/b/a", "/b/a/."}, {"/ab", "/ab/"}, {"/A"}, {"/a/b/c", "//a//b//c//"},
		{deep(32), deep(32) + "/"}, {deep(31), deep(32) + "/.."},
	} {
		for _, a := range l {
			for _, b := range l {
				if !path.Same(a, b) {
					t.Errorf("Same(%q, %q) is false", a, b)
				}
			}
		}
	}
	for _, s := range []string{"", "a", ".", "a/b", rep("/", 1025), "/\x00", "/" + long("") + "x", deep(33), deep(33) + "/.."} {
		for _, o := range []string{s, "/", "/a", "", "a"} {
			if path.Same(s, o) || path.Same(o, s) {
				t.Errorf("Same of %q, which is no path, and %q is true", cut(s), cut(o))
			}
		}
	}
}

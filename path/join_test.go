package path_test

import (
	"math/rand/v2"
	"slices"
	"strings"
	"testing"

	"signet/api"
	"signet/path"
)

// 18.5

func TestJoin(t *testing.T) {
	for _, c := range []struct{ base, s, want string }{
		{"/a/b", "c", "/a/b/c"}, {"/a/b", "../c", "/a/c"}, {"/a/b/", "c/", "/a/b/c"}, {"/a", ".", "/a"}, {"/a", "..", "/"}, {"/a", "../..", "/"}, {"/a", "../../b", "/b"}, {"/", "a", "/a"}, {"/", "a/b", "/a/b"}, {"/", "..", "/"}, {"//", "a//b", "/a/b"}, {"/a/..", "b", "/b"}, {"/a/.", "./b/.", "/a/b"},
		// An s with a slash at the front stands alone, whatever the base is.
		{"/a/b", "/c", "/c"}, {"/a/b", "/", "/"}, {"/a/b", "//c/", "/c"}, {"/a/b", "/../c", "/c"}, {"", "/c", "/c"}, {"a", "/c", "/c"}, {"/\x00", "/c", "/c"}, {rep("a", 5000), "/c", "/c"}, {deep(40), "/c", "/c"},
		// Of the empty one the base is left.
		{"/a/b", "", "/a/b"}, {"/", "", "/"}, {"/a/", "", "/a"}, {"", "", "/"},
		// The words ask of what is put together, not of the base, that it be a path.
		{"", "a", "/a"}, {"", "..", "/"}, {"", "a/b/", "/a/b"},
		{deep(31), "z", deep(31) + "/z"}, {deep(32), "..", deep(31)}, {deep(32), "../z", deep(31) + "/z"},
		{"/" + rep("../", 300), "a", "/a"}, {rep("/", 1022), "a", "/a"}, {rep("/", 1023), "", "/"},
	} {
		got, err := path.Join(c.base, c.s)
		wantText(t, "Join("+cut(c.base)+", "+cut(c.s)+")", got, err, c.want, api.OK)
	}
}

func TestJoinOfWhatIsNoPath(t *testing.T) {
	for _, c := range []struct {
		base, s string
		want    api.Errno
	}{
		{"a", "b", api.ErrPath}, {"a", "", api.ErrPath}, {".", "b", api.ErrPath}, {"..", "../b", api.ErrPath}, {"a/b", "..", api.ErrPath}, {"\x00", "\x00", api.ErrPath},
		{"/\x00", "..", api.ErrName}, {"/a", "\x00", api.ErrName}, {"/a", "b\x00/..", api.ErrName}, {"/a", long("") + "x", api.ErrName}, {"/" + long(""), "x/" + long("") + "x", api.ErrName}, {"/a", "/\x00", api.ErrName}, {"/" + rep("x", 57), "a", api.ErrName}, {"", "\x00", api.ErrName},
		{deep(32), "z", api.ErrDeep}, {deep(33), "..", api.ErrDeep}, {deep(33), "../..", api.ErrDeep}, {"/a", deep(32)[1:], api.ErrDeep}, {"/a", deep(33), api.ErrDeep},
		{rep("/", 1024), "", api.ErrLong}, {rep("/", 1023), "a", api.ErrLong}, {formOf(wide(1023)), "a", api.ErrLong}, {rep("/", 1020), "a/..", api.ErrLong}, {rep("a", 1024), "a", api.ErrLong}, {"/", rep("./", 600), api.ErrLong}, {"/a", rep("/", 1025), api.ErrLong}, {"", rep("a", 1024), api.ErrLong},
	} {
		got, err := path.Join(c.base, c.s)
		wantText(t, "Join("+cut(c.base)+", "+cut(c.s)+")", got, err, "", c.want)
	}
}

// checkJoin holds Join against what the words say of it.
func checkJoin(t *testing.T, base, s string) {
	t.Helper()
	whole := s
	if s == "" || s[0] != '/' {
		whole = base + "/" + s
	}
	want := read(whole)
	got, err := path.Join(base, s)
	wantText(t, "Join("+cut(base)+", "+cut(s)+")", got, err, formOf(want.names), want.err)
}

// way is Relative of names.
func way(from, to []string) string {
	skip := len(begin(from, to))
	s := rep("../", len(from)-skip)
	for _, n := range to[skip:] {
		s += n + "/"
	}
	if s == "" {
		return "."
	}
	return s[:len(s)-1]
}

// checkTwo holds Relative, Common and Same of two texts against what the words say of them.
func checkTwo(t *testing.T, a, b string) {
	t.Helper()
	x, y := read(a), read(b)
	first := x.err
	if first == api.OK {
		first = y.err
	}
	got, err := path.Relative(a, b)
	wantText(t, "Relative("+cut(a)+", "+cut(b)+")", got, err, way(x.names, y.names), first)
	got, err = path.Common(a, b)
	wantText(t, "Common("+cut(a)+", "+cut(b)+")", got, err, formOf(begin(x.names, y.names)), first)
	if same := path.Same(a, b); same != (first == api.OK && slices.Equal(x.names, y.names)) {
		t.Errorf("Same(%q, %q) = %v", cut(a), cut(b), same)
	}
}

func TestRelativeAndCommon(t *testing.T) {
	for _, c := range []struct{ a, b, way, common string }{
		{"/", "/", ".", "/"}, {"/a", "/a", ".", "/a"}, {"/a", "/a/", ".", "/a"}, {"/a/b", "/a/./c/../b", ".", "/a/b"}, {"/..", "/.", ".", "/"},
		{"/", "/a", "a", "/"}, {"/", "/a/b/", "a/b", "/"}, {"/a", "/a/b", "b", "/a"}, {"/a", "/a/b/c", "b/c", "/a"}, {"/a/", "/a/b/", "b", "/a"},
		{"/a", "/", "..", "/"}, {"/a/b", "/", "../..", "/"}, {"/a/b", "/a", "..", "/a"}, {"/a/b/c", "/a", "../..", "/a"},
		{"/a", "/b", "../b", "/"}, {"/a/b", "/a/c", "../c", "/a"}, {"/a/b", "/a/c/d", "../c/d", "/a"}, {"/a/b/c", "/x/y", "../../../x/y", "/"}, {"/a/b", "/b/a", "../../b/a", "/"}, {"/a/x/c", "/a/y/c", "../../y/c", "/a"},
		{"/ab", "/a", "../a", "/"}, {"/a/bc", "/a/bd", "../bd", "/a"}, {"/...", "/....", "../....", "/"},
		{deep(32), deep(32), ".", deep(32)}, {deep(32), deep(31), "..", deep(31)}, {deep(32), "/", rep("../", 31) + "..", "/"}, {"/", deep(32), deep(32)[1:], "/"},
		// Neither the way nor its length has a limit of its own.
		{rep("/a", 32), formOf(wide(1024)), rep("../", 32) + formOf(wide(1024))[1:], "/"},
	} {
		got, err := path.Relative(c.a, c.b)
		wantText(t, "Relative("+cut(c.a)+", "+cut(c.b)+")", got, err, c.way, api.OK)
		got, err = path.Common(c.a, c.b)
		wantText(t, "Common("+cut(c.a)+", "+cut(c.b)+")", got, err, c.common, api.OK)
		got, err = path.Common(c.b, c.a)
		wantText(t, "Common("+cut(c.b)+", "+cut(c.a)+")", got, err, c.common, api.OK)
	}
}

// Of two that are no paths the first one tells.
func TestRelativeAndCommonOfWhatIsNoPath(t *testing.T) {
	wrong := map[string]api.Errno{"": api.ErrPath, "a": api.ErrPath, "..": api.ErrPath, rep("/", 1025): api.ErrLong, "/\x00": api.ErrName, "/a/" + long("") + "x": api.ErrName, deep(33): api.ErrDeep, deep(33) + "/..": api.ErrDeep}
	calls := map[string]func(a, b string) (string, api.Errno){"Relative": path.Relative, "Common": path.Common}
	for what, call := range calls {
		for a, first := range wrong {
			for _, right := range []string{"/", "/a", "/a/b/"} {
				got, err := call(a, right)
				wantText(t, what+" from "+cut(a), got, err, "", first)
				got, err = call(right, a)
				wantText(t, what+" to "+cut(a), got, err, "", first)
			}
			for b := range wrong {
				got, err := call(a, b)
				wantText(t, what+" of "+cut(a)+" and "+cut(b), got, err, "", first)
			}
		}
	}
}

func TestTwoOfAllShortTexts(t *testing.T) {
	all := texts([]string{"/", "..", "a", "/b"}, 4)
	for _, a := range all {
		for _, b := range all {
			checkTwo(t, a, b)
			checkJoin(t, a, b)
		}
	}
}

func TestTwoOfEdges(t *testing.T) {
	for _, a := range edges() {
		for _, b := range edges() {
			checkTwo(t, a, b)
			checkJoin(t, a, b)
			checkJoin(t, a, strings.TrimLeft(b, "/"))
		}
	}
}

func TestTwoOfDrawnTexts(t *testing.T) {
	r := rand.New(rand.NewPCG(18, 5))
	for range 30000 {
		a, b := drawn(r), drawn(r)
		checkTwo(t, a, b)
		checkTwo(t, a+b, a+drawn(r))
		checkJoin(t, a, b)
		checkJoin(t, a, strings.TrimLeft(b, "/"))
	}
}

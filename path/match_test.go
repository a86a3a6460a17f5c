package path_test

import (
	"cmp"
	"math/rand/v2"
	"slices"
	"strings"
	"testing"

	"signet/api"
	"signet/name"
	"signet/path"
)

// 18.6

func TestMatch(t *testing.T) {
	for _, c := range []struct {
		pattern string
		yes, no []string
	}{
		{"/", []string{"/", "//", "/.", "/..", "/a/.."}, []string{"/a", "", "a", "/\x00"}},
		{"//", []string{"/"}, []string{"/a"}},
		{"/a", []string{"/a", "/a/", "//a", "/./a", "/b/../a", "/a/b/.."}, []string{"/", "/b", "/ab", "/A", "/a/a", "/a/b", "a", ""}},
		{"/a/", []string{"/a", "/a/"}, []string{"/", "/a/b"}},
		{"//a//b//", []string{"/a/b", "/a/b/"}, []string{"/a", "/b", "/a/b/c", "/b/a"}},
		{"/*", []string{"/a", "/abc", "/...", "/\xff", "/*", "/" + long("")}, []string{"/", "/a/b", "/..", "/.", "/" + long("") + "x", "a"}},
		{"/*/*", []string{"/a/b", "/a/b/", "/a/c/../b"}, []string{"/", "/a", "/a/b/c"}},
		{"/**", []string{"/a"}, []string{"/", "/a/b"}},
		{"/a*/?", []string{"/ab/c/", "/a/b", "/a*/?", "/abc/\xff"}, []string{"/b/c", "/ab/cd", "/ab", "/ab/c/d", "/ab/é"}},
		{"/?", []string{"/a", "/?"}, []string{"/", "/ab", "/.", "/é"}},
		{"/??", []string{"/ab", "/é"}, []string{"/a", "/..", "/abc", "/a/b"}},
		{"/a/*/c", []string{"/a/b/c", "/a//*/c/"}, []string{"/a/c", "/a/b/b/c", "/a/b", "/a/b/d"}},
		// A pattern's stops are parts as any other, which no name is.
		{"/.", nil, []string{"/", "/.", "/a", "/..."}}, {"/..", nil, []string{"/", "/..", "/a", "/a/.."}}, {"/./a", nil, []string{"/a", "/./a", "/b/a"}}, {"/a/.", nil, []string{"/a", "/a/.", "/a/b"}}, {"/a/../b", nil, []string{"/b", "/a/../b", "/a/x/b"}}, {"/.*", []string{"/.a", "/..."}, []string{"/.", "/..", "/a"}}, {"/...", []string{"/..."}, []string{"/..", "/...."}},
		// It must begin with a slash.
		{"", nil, []string{"/", "", "/a", "a"}}, {"a", nil, []string{"/a", "a", "/", ""}}, {"*", nil, []string{"/", "/a", "a", ""}}, {"*/a", nil, []string{"/a", "/b/a", "b/a"}}, {"?a", nil, []string{"/a", "/ba"}}, {"a/", nil, []string{"/a", "a/"}},
		// It need be no path itself.
		{"/" + rep("*", 100), []string{"/a"}, []string{"/", "/a/b"}}, {"/" + rep("*", 5000) + "/b", []string{"/a/b"}, []string{"/a", "/a/a"}}, {rep("/", 5000) + "a", []string{"/a"}, []string{"/", "/b"}}, {rep("/*", 32), []string{deep(32)}, []string{deep(31), deep(33), "/"}}, {rep("/*", 33), nil, []string{deep(32), deep(33), "/"}}, {"/\x00", nil, []string{"/a", "/\x00"}}, {"/*\x00", nil, []string{"/a", "/a\x00"}}, {rep("/?", 600), nil, []string{rep("/a", 32)}},
	} {
		for _, s := range c.yes {
			if !path.Match(c.pattern, s) {
				t.Errorf("Match(%q, %q) is false", cut(c.pattern), cut(s))
			}
		}
		for _, s := range c.no {
			if path.Match(c.pattern, s) {
				t.Errorf("Match(%q, %q) is true", cut(c.pattern), cut(s))
			}
		}
	}
}

// fits is Match, as its words say it.
func fits(pattern, s string) bool {
	p := read(s)
	if !strings.HasPrefix(pattern, "/") || p.err != api.OK {
		return false
	}
	parts := slices.DeleteFunc(strings.Split(pattern, "/"), func(part string) bool { return part == "" })
	return slices.EqualFunc(parts, p.names, name.Match)
}

func TestMatchOfManyTexts(t *testing.T) {
	took := 0
	check := func(pattern, s string) {
		t.Helper()
		want := fits(pattern, s)
		if got := path.Match(pattern, s); got != want {
			t.Errorf("Match(%q, %q) = %v", cut(pattern), cut(s), got)
		}
		if want {
			took++
		}
	}
	paths := texts([]string{"/", ".", "a", "/b"}, 4)
	for _, pattern := range texts([]string{"/", ".", "a", "*", "?"}, 4) {
		for _, s := range paths {
			check(pattern, s)
		}
	}
	r := rand.New(rand.NewPCG(18, 6))
	for range 30000 {
		s := drawn(r)
		check(strings.ReplaceAll(s, "a", "?"), s)
		check(strings.ReplaceAll(formOf(read(s).names), "n", "*"), s)
		check(drawn(r), s)
	}
	for _, s := range edges() {
		check(s, s)
		check(formOf(read(s).names), s)
		check("/*", s)
	}
	if took < 10000 {
		t.Errorf("only %d fit: too few to tell", took)
	}
}

// lists is lists of names and of texts that are none, in no order.
func lists() [][]string {
	all := [][]string{nil, {}, {"a/b"}, {"a!"}, {"a!", "b"}, {"a."}, {"/"}, {"\x00"}, {"", "", "", ""}, {"\x7f"}, {"\x80"}, {"é"}, {"z"}, {"z", "é"}, {"\xff", "\xff"}, {long("a")}, {long("a"), "b"}, names(40), names(41)}
	parts := []string{"", "a", "ab", "b", "\xff"}
	for _, x := range parts {
		all = append(all, []string{x})
		for _, y := range parts {
			all = append(all, []string{x, y})
			for _, z := range parts {
				all = append(all, []string{x, y, z})
			}
		}
	}
	return all
}

func TestCompare(t *testing.T) {
	l := func(s ...string) []string { return s }
	for _, c := range []struct {
		a, b []string
		want int
	}{
		{nil, nil, 0}, {nil, l(), 0}, {l(), nil, 0}, {l("a"), l("a"), 0}, {l("a", "b"), l("a", "b"), 0}, {l(""), l(""), 0}, {l("\xff"), l("\xff"), 0},
		{nil, l("a"), -1}, {nil, l(""), -1}, {l(), l("", ""), -1}, {l("a"), l("a", "b"), -1}, {l("a"), l("a", ""), -1}, {l("a", "b"), l("a", "b", "c"), -1}, {names(31), names(32), -1},
		{l("a"), l("b"), -1}, {l("a", "z"), l("b"), -1}, {l("a", "z", "z"), l("b", "a"), -1}, {l("a", "b"), l("a", "c"), -1}, {l("a", "b", "z"), l("a", "c"), -1}, {l("x", "a", "z"), l("x", "b", "a"), -1},
		{l("a"), l("ab"), -1}, {l("a", "z"), l("ab"), -1}, {l("a", "b"), l("a!"), -1}, {l(""), l("a"), -1}, {l("", "z"), l("a"), -1}, {l("a9"), l("b10"), -1}, {l("a10"), l("a9"), -1}, {l("B"), l("a"), -1},
		// Bytes above 127 are behind those below, as bytes without a sign.
		{l("\x7f"), l("\x80"), -1}, {l("z"), l("é"), -1}, {l("\x00"), l("\xff"), -1}, {l("\xc3\xa9"), l("\xff"), -1}, {l("a\x7f"), l("a\x80"), -1}, {l("\xfe", "b"), l("\xff", "a"), -1}, {l("\uffff"), l("\U00010000"), -1},
	} {
		if got := path.Compare(c.a, c.b); got != c.want {
			t.Errorf("Compare(%q, %q) = %d; want %d", c.a, c.b, got, c.want)
		}
		if got := path.Compare(c.b, c.a); got != -c.want {
			t.Errorf("Compare(%q, %q) = %d; want %d", c.b, c.a, got, -c.want)
		}
	}
}

// ahead is Compare, as its words say it.
func ahead(a, b []string) int {
	same := len(begin(a, b))
	if same == len(a) || same == len(b) {
		return cmp.Compare(len(a), len(b))
	}
	return slices.Compare([]byte(a[same]), []byte(b[same]))
}

func TestCompareOfManyLists(t *testing.T) {
	for _, a := range lists() {
		for _, b := range lists() {
			if got, want := path.Compare(a, b), ahead(a, b); got != want {
				t.Errorf("Compare(%q, %q) = %d; want %d", a, b, got, want)
			}
		}
	}
}

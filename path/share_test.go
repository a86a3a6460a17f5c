package path_test

import (
	"slices"
	"strings"
	"testing"

	"signet/api"
	"signet/path"
)

// R4

// scribble writes over a list and the spare room behind it.
func scribble(l []string) {
	l = l[:cap(l)]
	for i := range l {
		l[i] = "scribbled"
	}
}

// allApart asks that each two texts lie in memory of their own.
func allApart(t *testing.T, what string, l ...string) {
	t.Helper()
	for i, a := range l {
		for _, b := range l[:i] {
			if !apart(a, b) {
				t.Errorf("%s: %q and %q share memory", what, cut(a), cut(b))
			}
		}
	}
}

func TestParseHandsOutNewMemory(t *testing.T) {
	for _, s := range several(10, 300) {
		s = strings.Clone(s)
		was := strings.Clone(s)
		want := read(s)
		one, _, err := path.Parse(s)
		two, _, _ := path.Parse(s)
		if err == api.OK {
			allApart(t, "Parse", slices.Concat([]string{s}, one.Names, two.Names)...)
		}
		scribble(one.Names)
		if !slices.Equal(two.Names, want.names) || s != was {
			t.Errorf("Parse(%q): what was done to one answer is seen in another", cut(was))
		}
		wantParse(t, s, want)
	}
}

func TestSplitHandsOutNewMemory(t *testing.T) {
	for _, s := range several(11, 300) {
		s = strings.Clone(s)
		one, last, err := path.Split(s)
		two, other, _ := path.Split(s)
		if err != api.OK {
			continue
		}
		allApart(t, "Split", slices.Concat([]string{s, last, other}, one.Names, two.Names)...)
		for _, spare := range one.Names[len(one.Names):cap(one.Names)] {
			if spare != "" {
				t.Errorf("Split(%q): %q stands in the spare room", cut(s), spare)
			}
		}
		want := read(s).names
		scribble(one.Names)
		if !slices.Equal(two.Names, want[:len(want)-1]) || last != want[len(want)-1] {
			t.Errorf("Split(%q): what was done to one answer is seen in another", cut(s))
		}
	}
}

func TestTextsHandedOutAreNewMemory(t *testing.T) {
	all := append(edges(), texts([]string{"/", "..", "a", "/b"}, 3)...)
	for _, a := range all {
		a = strings.Clone(a)
		clean, _ := path.Clean(a)
		allApart(t, "Clean", a, clean)
		for _, b := range all {
			b = strings.Clone(b)
			joined, _ := path.Join(a, b)
			way, _ := path.Relative(a, b)
			common, _ := path.Common(a, b)
			for _, s := range []string{joined, way, common} {
				if !apart(s, a) || !apart(s, b) {
					t.Errorf("%q, of %q and %q, shares memory with them", cut(s), cut(a), cut(b))
				}
			}
		}
	}
}

func TestListsHandedInAreNotChanged(t *testing.T) {
	all := append(lists(), names(32), wide(1024), wide(1025))
	for _, was := range all {
		l := roomy(was)
		s, _, _ := path.Print(l)
		for _, n := range l {
			if !apart(s, n) {
				t.Errorf("Print(%q) shares memory with %q", was, n)
			}
		}
		for _, other := range all {
			o := roomy(other)
			path.Compare(l, o)
			path.Within(api.Path{Names: l}, api.Path{Names: o})
			if !untouched(o, other) {
				t.Errorf("%q is changed to %q", other, o)
			}
		}
		if !untouched(l, was) {
			t.Errorf("%q is changed to %q", was, l)
		}
	}
}

// A text that was made keeps its bytes, whatever is done to the list that it was made of.
func TestPrintKeepsNothing(t *testing.T) {
	l := []string{"a", "b", "c"}
	s, _, _ := path.Print(l)
	scribble(l)
	if s != "/a/b/c" {
		t.Errorf("Print(a, b, c) is %q behind a change of the list", s)
	}
	wantPrint(t, []string{"a"}, "/a", 0, api.OK)
}

// What a call answers hangs on its arguments alone, whatever was called ahead.
func TestAnswersAreTheSameAgain(t *testing.T) {
	for _, s := range append(edges(), edges()...) {
		path.Match("/*", s)
		path.Join(s, "..")
		wantParse(t, s, read(s))
	}
}

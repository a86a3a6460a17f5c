package find_test

import (
	"slices"
	"strings"
	"testing"

	"signet/api"
	"signet/find"
	"signet/inodes"
)

// R4

// fill writes over a list and the spare room behind it.
func fill[T any](l []T, with T) {
	l = l[:cap(l)]
	for i := range l {
		l[i] = with
	}
}

// spoil writes over all lists that the calls hand out, and their spare room.
func spoil(x *inodes.Inodes) {
	junk := api.Found{Path: "spoiled", Info: api.Info{Number: 999}}
	for _, names := range [][]string{nil, {"d"}, {"d", "e", "f"}} {
		way, places, _ := find.Chain(x, names)
		fill(way, 999)
		fill(places, 999)
	}
	_, _, p, _ := find.Parent(x, "/d/e/f")
	fill(p.Names, "spoiled")
	all, _ := find.All(x)
	fill(all, junk)
	for _, s := range []string{"/", "/*", "/*/*"} {
		l, _ := find.Glob(x, s)
		fill(l, junk)
	}
	for n := range 20 {
		l, _ := find.Paths(x, n)
		fill(l, "spoiled")
	}
}

// What is done to an answer is seen in no other one, and not in the inodes.
func TestAnswersAreTheCallersOwn(t *testing.T) {
	m := grove()
	bothForms(t, m, func(x *inodes.Inodes) {
		calls := slices.Concat(whole(), walks(), walks("d"), walks("d", "e", "f"), of("Parent", "/d/e/f"), of("Glob", "/", "/*", "/*/*"), of("Lookup", "/d/e/f"))
		check(t, x, m, calls...)
		spoil(x)
		check(t, x, m, calls...)
		holds(t, "behind answers that were written over", x, m)
	})
}

// The two lists of one answer share nothing.
func TestListsOfOneAnswer(t *testing.T) {
	x := made(t, 64, 8).laid(grove())
	for _, names := range [][]string{nil, {"d"}, {"d", "e"}, {"d", "e", "f"}, {"d", "c", "more", "f"}} {
		way, places, _ := find.Chain(x, names)
		was := slices.Clone(way)
		fill(places, 999)
		if !slices.Equal(way, was) {
			t.Errorf("Chain(%q): what is done to the places is seen in the inodes", names)
		}
		_, places, _ = find.Chain(x, names)
		way, again, _ := find.Chain(x, names)
		fill(way, 999)
		if !slices.Equal(places, again) {
			t.Errorf("Chain(%q): what is done to the inodes is seen in the places", names)
		}
	}
}

// What is handed in is as it was, with the spare room behind it, and is not kept.
func TestWhatIsHandedInStays(t *testing.T) {
	x := made(t, 64, 8).laid(grove())
	for _, was := range [][]string{{}, {"d"}, {"d", "e", "f"}, {"d", "missing"}, {"f", "a"}, {"d", "", "x"}, {"d", "c", "more", "f"}} {
		names := append(slices.Grow(slices.Clone(was), 9), "spare", "room")
		n, err := find.Walk(x, names[:len(was)])
		way, places, other := find.Chain(x, names[:len(was)])
		if !slices.Equal(names, append(slices.Clone(was), "spare", "room")) {
			t.Errorf("%q is changed to %q", was, names)
		}
		wasWay, wasPlaces := slices.Clone(way), slices.Clone(places)
		fill(names, "spoiled")
		if !slices.Equal(way, wasWay) || !slices.Equal(places, wasPlaces) {
			t.Errorf("Chain(%q) is another one behind a change of the list", was)
		}
		if again, same := find.Walk(x, was); again != n || same != err || other != err {
			t.Errorf("Walk(%q) = %d, %d, and then %d, %d", was, n, err, again, same)
		}
	}
}

// The texts of answers lie in memory of their own.
func TestTextsAreNewMemory(t *testing.T) {
	x := made(t, 64, 8).laid(grove())
	var texts []string
	for range 2 {
		s := strings.Clone("/d/e/new")
		_, last, p, _ := find.Parent(x, s)
		texts = append(texts, s, last)
		texts = append(texts, p.Names...)
		pattern := strings.Clone("/d/e/f")
		l, _ := find.Glob(x, pattern)
		more, _ := find.Glob(x, "/*/*")
		all, _ := find.All(x)
		of, _ := find.Paths(x, 13)
		texts = append(texts, pattern)
		texts = append(texts, paths(slices.Concat(l, more, all[1:]))...)
		texts = append(texts, of...)
	}
	for i, a := range texts {
		for _, b := range texts[:i] {
			if !apart(a, b) {
				t.Errorf("%q and %q share memory", a, b)
			}
		}
	}
}

// No call changes the inodes: nothing is new, and what layer 15 tells is the same.
func TestNothingIsChanged(t *testing.T) {
	m := grove()
	bothForms(t, m, func(x *inodes.Inodes) {
		before, _ := x.New()
		for _, c := range slices.Concat(whole(), walks(), walks("d", "e"), walks("x"), walks("f", "a"), walks(""), of("Lookup", "/d", "/f/", "/x", ""), of("Parent", "/d", "/f/a", "/x/y", "/"), of("Glob", "/*/*", "/x", "", rep("/*", 33))) {
			c.do(x)
			holds(t, c.brief(), x, m)
		}
		if after, err := x.New(); after != before || err != api.OK {
			t.Errorf("New is %d, %d; it was %d", after, err, before)
		}
	})
}

package name_test

import (
	"math/rand/v2"
	"slices"
	"strings"
	"testing"

	"signet/api"
	"signet/name"
)

func TestCheckOfNames(t *testing.T) {
	for _, s := range rightNames {
		if err := name.Check(s); err != api.OK {
			t.Errorf("Check(%q) = %d; want OK", s, err)
		}
	}
}

func TestCheckOfWhatIsNoName(t *testing.T) {
	for _, s := range wrongNames {
		if err := name.Check(s); err != api.ErrName {
			t.Errorf("Check(%q) = %d; want ErrName", s, err)
		}
	}
}

func TestCheckOfEachLength(t *testing.T) {
	for many := range 300 {
		want := api.OK
		if many < 1 || many > 56 {
			want = api.ErrName
		}
		for _, letter := range []string{"a", "\xff", " "} {
			if err := name.Check(strings.Repeat(letter, many)); err != want {
				t.Errorf("Check of %d times %q = %d; want %d", many, letter, err, want)
			}
		}
	}
}

// Each byte at the front, in the midst and at the end, in a short name and in the longest: two of them may not be.
func TestCheckOfEachByte(t *testing.T) {
	for b := range 256 {
		want := api.OK
		if b == 0 || b == '/' {
			want = api.ErrName
		}
		s := string([]byte{byte(b)})
		for _, around := range []string{"x", "\xe2", "éé", strings.Repeat("y", 27)} {
			for _, s := range []string{s + around, around + s, around + s + around} {
				if err := name.Check(s); err != want {
					t.Errorf("Check(%q) = %d; want %d", s, err, want)
				}
			}
		}
	}
}

func TestCompare(t *testing.T) {
	for _, c := range []struct {
		a, b string
		want int
	}{
		{"", "", 0}, {"a", "a", 0}, {"\xff", "\xff", 0}, {"a\x00", "a\x00", 0}, {".", ".", 0},
		{"", "a", -1}, {"", "\x00", -1}, {"a", "a\x00", -1}, {"a", "aa", -1}, {"ab", "abc", -1}, {"abc", "abcabc", -1},
		{"a", "b", -1}, {"aa", "ab", -1}, {"ab", "b", -1}, {"aaaaaaaaaaaaaaaaab", "b", -1}, {"Z", "a", -1}, {"a9", "aa", -1}, {"a10", "a9", -1}, {"a/b", "a0", -1},
		{"a", "\x80", -1}, {"\x7f", "\x80", -1}, {"\x80", "\xff", -1}, {"z", "é", -1}, {"a\x7f", "a\xff", -1}, {"\xc3\xa9", "\xff", -1}, {"\x00", "\xff", -1},
		{"\xee\x80\x80", "\xf0\x90\x80\x80", -1}, {"\xe2", "\xef\xbf\xbd", -1},
	} {
		if got := name.Compare(c.a, c.b); got != c.want {
			t.Errorf("Compare(%q, %q) = %d; want %d", c.a, c.b, got, c.want)
		}
		if got := name.Compare(c.b, c.a); got != -c.want {
			t.Errorf("Compare(%q, %q) = %d; want %d", c.b, c.a, got, -c.want)
		}
	}
}

func TestCompareOfAllSamples(t *testing.T) {
	all := slices.Concat(rightNames, wrongNames)
	for _, a := range all {
		for _, b := range all {
			if got, want := name.Compare(a, b), before(a, b); got != want {
				t.Errorf("Compare(%q, %q) = %d; want %d", a, b, got, want)
			}
		}
	}
}

// isOrder asks of all pairs and triples of texts what an order asks for.
func isOrder(t *testing.T, what string, order func(a, b string) int, all []string) {
	for _, a := range all {
		if order(a, a) != 0 {
			t.Fatalf("%s: %q is not equal to itself", what, a)
		}
		for _, b := range all {
			first := order(a, b)
			if first != -order(b, a) || first < -1 || first > 1 {
				t.Fatalf("%s: %q and %q, both ways round: %d and %d", what, a, b, first, order(b, a))
			}
			if first == 0 && a != b {
				t.Fatalf("%s: %q and %q are equal", what, a, b)
			}
			for _, c := range all {
				if first < 0 && order(b, c) < 0 && order(a, c) >= 0 {
					t.Fatalf("%s: %q is ahead of %q, which is ahead of %q, but the first is not ahead of the third", what, a, b, c)
				}
			}
		}
	}
}

func TestCompareIsAnOrder(t *testing.T) {
	isOrder(t, "Compare", name.Compare, slices.Compact(slices.Sorted(slices.Values(slices.Concat(rightNames, wrongNames)))))
}

func TestSorted(t *testing.T) {
	for _, c := range []struct{ l, want []api.Link }{
		{nil, nil},
		{[]api.Link{}, nil},
		{[]api.Link{link(3, "a")}, []api.Link{link(3, "a")}},
		{[]api.Link{link(1, "b"), link(2, "a")}, []api.Link{link(2, "a"), link(1, "b")}},
		{[]api.Link{link(2, "a"), link(1, "b")}, []api.Link{link(2, "a"), link(1, "b")}},
		{[]api.Link{link(3, "a"), link(1, "a"), link(2, "a")}, []api.Link{link(1, "a"), link(2, "a"), link(3, "a")}},
		{[]api.Link{link(10, "a"), link(9, "a"), link(-1, "a"), link(0, "a")}, []api.Link{link(-1, "a"), link(0, "a"), link(9, "a"), link(10, "a")}},
		{[]api.Link{link(2, "a"), link(1, "b"), link(2, "a")}, []api.Link{link(2, "a"), link(2, "a"), link(1, "b")}},
		{[]api.Link{link(1, "a10"), link(2, "a9"), link(3, "a"), link(4, "\xff"), link(5, "Z"), link(6, "é")}, []api.Link{link(5, "Z"), link(3, "a"), link(1, "a10"), link(2, "a9"), link(6, "é"), link(4, "\xff")}},
		{[]api.Link{link(5000, "a/b"), link(-7, ""), link(0, "..")}, []api.Link{link(-7, ""), link(0, ".."), link(5000, "a/b")}},
	} {
		if got := name.Sorted(c.l); !slices.Equal(got, c.want) {
			t.Errorf("Sorted(%v) = %v; want %v", c.l, got, c.want)
		}
	}
}

// some is a list of entries with a few names and inodes, so that many have one name, and some are the same.
func some(r *rand.Rand, many int) []api.Link {
	l := make([]api.Link, many)
	for i := range l {
		l[i] = link(r.IntN(9), string([]byte{"ab\x80"[r.IntN(3)], "ab\xff"[r.IntN(3)]})[:1+r.IntN(2)])
	}
	return l
}

// Taking out the least, again and again, is a sort that keeps to the words of the promise.
func plainlySorted(l []api.Link) []api.Link {
	l = slices.Clone(l)
	var sorted []api.Link
	for len(l) > 0 {
		least := 0
		for i, x := range l {
			if first := before(x.Name, l[least].Name); first < 0 || first == 0 && x.Inode < l[least].Inode {
				least = i
			}
		}
		sorted = append(sorted, l[least])
		l = slices.Delete(l, least, least+1)
	}
	return sorted
}

func TestSortedOfMany(t *testing.T) {
	r := rand.New(rand.NewPCG(13, 1))
	for range 300 {
		l := some(r, r.IntN(40))
		if got, want := name.Sorted(l), plainlySorted(l); !slices.Equal(got, want) {
			t.Fatalf("Sorted(%v) = %v; want %v", l, got, want)
		}
	}
}

func TestSortedLeavesTheListHandedIn(t *testing.T) {
	r := rand.New(rand.NewPCG(13, 2))
	for many := range 30 {
		l := some(r, many)
		given := roomy(l)
		name.Sorted(given)
		if !slices.Equal(given, l) || !spare(given) {
			t.Errorf("Sorted changed the list that was handed in, %v, or what is behind it", l)
		}
	}
}

func TestSortedIsNewMemory(t *testing.T) {
	for many := range 12 {
		l := some(rand.New(rand.NewPCG(13, 3)), many)
		given := roomy(name.Sorted(l))
		want := slices.Clone(given)
		a, b := name.Sorted(given), name.Sorted(given)
		a = append(a, link(1, "x"))
		a = a[:cap(a)]
		for i := range a {
			a[i] = link(99, "other")
		}
		if !slices.Equal(given, want) || !slices.Equal(b, want) || !spare(given) {
			t.Errorf("what Sorted of %d entries answers shares memory", many)
		}
		for i := range given {
			given[i] = link(98, "another")
		}
		if !slices.Equal(b, want) {
			t.Errorf("Sorted of %d entries kept what was handed in", many)
		}
	}
}

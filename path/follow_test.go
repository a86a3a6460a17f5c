package path_test

import (
	"math/rand/v2"
	"slices"
	"strings"
	"testing"

	"signet/api"
	"signet/path"
)

// several is texts of all kinds: edges, short ones and drawn ones.
func several(seed uint64, many int) []string {
	l := append(edges(), texts([]string{"/", "..", "a", "/b", "."}, 4)...)
	r := rand.New(rand.NewPCG(18, seed))
	for range many {
		l = append(l, drawn(r))
	}
	return l
}

// 18.4

func TestWhatFollowsOfClean(t *testing.T) {
	paths := 0
	for _, s := range several(4, 30000) {
		p, _, err := path.Parse(s)
		clean, cleanErr := path.Clean(s)
		if err != cleanErr {
			t.Errorf("Parse(%q) tells %d, Clean %d", cut(s), err, cleanErr)
		}
		if err != api.OK {
			continue
		}
		paths++
		if again, err := path.Clean(clean); again != clean || err != api.OK {
			t.Errorf("Clean of Clean(%q), %q, = %q, %d", cut(s), cut(clean), cut(again), err)
		}
		if q, at, err := path.Parse(clean); !slices.Equal(q.Names, p.Names) || at != 0 || err != api.OK || q.Dir != (len(p.Names) == 0) {
			t.Errorf("Parse of Clean(%q) = %v, %d, %d; want the names %q", cut(s), q, at, err, p.Names)
		}
		if len(clean) > len(s) || len(p.Names) == 0 && clean != "/" {
			t.Errorf("Clean(%q) = %q", cut(s), cut(clean))
		}
		printed, at, err := path.Print(p.Names)
		if printed != clean || at != 0 || err != api.OK {
			t.Errorf("Print of the names of %q = %q, %d, %d; want %q", cut(s), cut(printed), at, err, cut(clean))
		}
		if len(clean) > 1 && strings.HasSuffix(clean, "/") {
			t.Errorf("Clean(%q) = %q ends with a slash", cut(s), cut(clean))
		}
		if !path.Same(s, clean) {
			t.Errorf("Same(%q, %q) is false", cut(s), cut(clean))
		}
	}
	if paths < 10000 {
		t.Errorf("only %d are paths: too few to tell", paths)
	}
}

// Names that Print takes are those of what it makes of them.
func TestParseOfPrint(t *testing.T) {
	all := append(lists(), names(32), names(33), wide(1023), wide(1024), wide(1025))
	for _, l := range all {
		s, _, err := path.Print(l)
		if err != api.OK {
			continue
		}
		if p, at, err := path.Parse(s); !slices.Equal(p.Names, l) || at != 0 || err != api.OK {
			t.Errorf("Parse of Print(%q) = %v, %d, %d", l, p, at, err)
		}
	}
}

// 18.7

// somePairs calls with pairs of texts, many of which have a beginning in common.
func somePairs(seed uint64, do func(a, b string)) {
	short := texts([]string{"/", "..", "a", "/b"}, 4)
	for _, a := range short {
		for _, b := range short {
			do(a, b)
		}
	}
	for _, a := range edges() {
		for _, b := range edges() {
			do(a, b)
		}
	}
	r := rand.New(rand.NewPCG(18, seed))
	for range 20000 {
		a, b := drawn(r), drawn(r)
		do(a, b)
		do(a+b, a+drawn(r))
	}
}

func TestJoinOfRelative(t *testing.T) {
	paths, long := 0, 0
	somePairs(7, func(from, to string) {
		way, err := path.Relative(from, to)
		if err != api.OK {
			return
		}
		got, err := path.Join(from, way)
		want, _ := path.Clean(to)
		switch {
		case err == api.OK && got == want:
			paths++
		case err == api.ErrLong && len(from)+1+len(way) > api.MaxPath:
			long++
		default:
			t.Errorf("Join(%q, %q) = %q, %d; want %q", cut(from), cut(way), cut(got), err, cut(want))
		}
		if strings.HasPrefix(way, "/") || way == "" {
			t.Errorf("Relative(%q, %q) = %q", cut(from), cut(to), cut(way))
		}
	})
	if paths < 10000 || long == 0 {
		t.Errorf("%d are paths, %d too long: too few to tell", paths, long)
	}
}

func TestCommonIsAbove(t *testing.T) {
	somePairs(8, func(a, b string) {
		s, err := path.Common(a, b)
		if err != api.OK {
			return
		}
		x, _, _ := path.Parse(a)
		y, _, _ := path.Parse(b)
		above, _, err := path.Parse(s)
		if err != api.OK || !path.Within(x, above) || !path.Within(y, above) {
			t.Errorf("Common(%q, %q) = %q", cut(a), cut(b), cut(s))
		}
		if path.Within(x, y) && !slices.Equal(above.Names, y.Names) {
			t.Errorf("Common(%q, %q) = %q, though the one is within the other", cut(a), cut(b), cut(s))
		}
	})
}

func TestMatchOfTheOneForm(t *testing.T) {
	somePairs(9, func(a, b string) {
		clean, err := path.Clean(a)
		if err != api.OK || strings.ContainsAny(clean, "*?") {
			return
		}
		if got, want := path.Match(clean, b), path.Same(a, b); got != want {
			t.Errorf("Match(%q, %q) = %v, and Same = %v", cut(clean), cut(b), got, want)
		}
		if !path.Match(clean, a) {
			t.Errorf("Match(%q, %q) is false", cut(clean), cut(a))
		}
	})
}

func TestCompareIsAnOrder(t *testing.T) {
	all := lists()
	for _, a := range all {
		for _, b := range all {
			first := path.Compare(a, b)
			if path.Compare(b, a) != -first || (first == 0) != slices.Equal(a, b) {
				t.Errorf("Compare(%q, %q) = %d, and the other way about %d", a, b, first, path.Compare(b, a))
			}
			for _, c := range all {
				if first <= 0 && path.Compare(b, c) <= 0 && path.Compare(a, c) > 0 {
					t.Fatalf("%q, %q and %q are in no order", a, b, c)
				}
			}
		}
	}
}

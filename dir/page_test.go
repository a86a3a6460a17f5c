package dir_test

import (
	"math"
	"strings"
	"testing"

	"signet/api"
	"signet/dir"
	"signet/inodes"
)

// 17.5

// texts is what pages come behind: nothing, texts ahead of all names, between them and behind them, and texts that are no names.
var texts = []string{"", "\x00", ".", "/", "a", "n", "n0", "n00000", "n00000\x00", "n00001", "n1", "n16383", "n\xff", "o", "\xff", long(), strings.Repeat("n", 57), strings.Repeat("n", 5000), "n/", ".."}

func TestPage(t *testing.T) {
	each(t, func(x *inodes.Inodes, m model, n int) {
		many := len(m[n].entries)
		after := texts
		for _, e := range m[n].entries[:min(many, 9)] {
			after = append(after[:len(after):len(after)], e.Name, e.Name+"\x00", e.Name[:5])
		}
		if many > 0 {
			l := m[n].by(func(api.Link) bool { return true })
			after = append(after, l[0].Name, l[many-1].Name, l[many-1].Name+"0", l[many/2].Name)
		}
		for _, s := range after {
			behind := len(m[n].by(func(e api.Link) bool { return e.Name > s }))
			for _, k := range []int{0, 1, behind - 1, behind, behind + 1, many - 1, many, many + 1, math.MaxInt} {
				check(t, x, m, call{op: "Page", dir: n, s: s, n: k})
			}
			fails(t, x, m, api.ErrArg, call{op: "Page", dir: n, s: s, n: -1}, call{op: "Page", dir: n, s: s, n: math.MinInt})
		}
		holds(t, "behind Page", x, m)
	})
}

func TestPageAtTheEdges(t *testing.T) {
	x, m := made(t, 16, 8).empty(), model{}
	n := putDir(t, x, m, []api.Link{{Inode: 4, Name: "c"}, {Inode: 2, Name: "a"}, {Inode: 3, Name: "b"}})
	for _, c := range []struct {
		after string
		n     int
		want  string
		more  bool
	}{
		{"", 0, "", true}, {"", 1, `2:"a" `, true}, {"", 2, `2:"a" 3:"b" `, true}, {"", 3, `2:"a" 3:"b" 4:"c" `, false}, {"", 4, `2:"a" 3:"b" 4:"c" `, false}, {"", math.MaxInt, `2:"a" 3:"b" 4:"c" `, false},
		{"a", 0, "", true}, {"a", 1, `3:"b" `, true}, {"a", 2, `3:"b" 4:"c" `, false}, {"a", 3, `3:"b" 4:"c" `, false},
		{"ab", 1, `3:"b" `, true}, {"b", 1, `4:"c" `, false}, {"b", 0, "", true}, {"bb", 9, `4:"c" `, false}, {"c", 0, "", false}, {"c", 1, "", false}, {"c", math.MaxInt, "", false}, {"d", 1, "", false}, {"a/b", 1, `3:"b" `, true}, {"\x00", 1, `2:"a" `, true},
	} {
		l, more, err := dir.Page(x, n, c.after, c.n)
		if told(l) != c.want || more != c.more || err != api.OK {
			t.Errorf("Page(%q, %d) = %v, %v, %d; want %s, %v", c.after, c.n, l, more, err, c.want, c.more)
		}
	}
	empty := putDir(t, x, m, nil)
	for _, k := range []int{0, 1, math.MaxInt} {
		for _, s := range texts {
			if l, more, err := dir.Page(x, empty, s, k); len(l) != 0 || more || err != api.OK {
				t.Errorf("Page(%q, %d) of nothing = %v, %v, %d", s, k, l, more, err)
			}
		}
	}
}

// Page behind page is the list.
func TestPagesAreTheList(t *testing.T) {
	each(t, func(x *inodes.Inodes, m model, n int) {
		all, _ := dir.List(x, n)
		for k := 1; k < 7; k++ {
			var l []api.Link
			after, more := "", true
			for more {
				page, m, err := dir.Page(x, n, after, k)
				if err != api.OK || m && len(page) != k {
					t.Fatalf("Page(%q, %d) = %v, %v, %d", after, k, page, m, err)
				}
				if l, more = append(l, page...), m; more {
					after = page[k-1].Name
				}
			}
			if told(l) != told(all) {
				t.Errorf("pages of %d: %v; want %v", k, l, all)
			}
		}
	})
}

func TestBegins(t *testing.T) {
	each(t, func(x *inodes.Inodes, m model, n int) {
		for _, s := range texts {
			check(t, x, m, call{op: "Begins", dir: n, s: s})
		}
		for _, e := range m[n].entries[:min(9, len(m[n].entries))] {
			check(t, x, m, call{op: "Begins", dir: n, s: e.Name})
			check(t, x, m, call{op: "Begins", dir: n, s: e.Name[:3]})
			check(t, x, m, call{op: "Begins", dir: n, s: e.Name[1:]})
			check(t, x, m, call{op: "Begins", dir: n, s: e.Name[4:]})
			check(t, x, m, call{op: "Begins", dir: n, s: e.Name + "0"})
			if got := (call{op: "Begins", dir: n, s: e.Name}).do(x); got != (answer{links: told([]api.Link{e})}) {
				t.Errorf("Begins(%q) = %s", e.Name, got.brief())
			}
		}
		if got, want := (call{op: "Begins", dir: n}).do(x), (call{op: "List", dir: n}).want(m); got != want {
			t.Errorf("Begins of nothing = %s; want %s", got.brief(), want.brief())
		}
		holds(t, "behind Begins", x, m)
	})
}

func TestMatches(t *testing.T) {
	each(t, func(x *inodes.Inodes, m model, n int) {
		for _, s := range []string{"", "*", "**", "?", "??????", "?????", "???????", "n*", "*n", "*0*", "n?????", "n0????", "*9", "n*1*5", "a*", "[n]*", "N*", "/", "*/*", "n*\x00", strings.Repeat("*", 100), strings.Repeat("?", 57)} {
			check(t, x, m, call{op: "Matches", dir: n, s: s})
		}
		for _, e := range m[n].entries[:min(9, len(m[n].entries))] {
			for _, s := range []string{e.Name, e.Name[:3] + "*", "*" + e.Name[4:], e.Name[:2] + "?" + e.Name[3:], e.Name + "?", e.Name + "*"} {
				check(t, x, m, call{op: "Matches", dir: n, s: s})
			}
		}
		if got, want := (call{op: "Matches", dir: n, s: "*"}).do(x), (call{op: "List", dir: n}).want(m); got != want {
			t.Errorf("Matches of all = %s; want %s", got.brief(), want.brief())
		}
		holds(t, "behind Matches", x, m)
	})
}

// Names that have a ? or a * of their own are taken by that, and it takes others, too.
func TestMatchesOfNamesLikePatterns(t *testing.T) {
	x, m := made(t, 16, 8).empty(), model{}
	n := putDir(t, x, m, []api.Link{{Inode: 2, Name: "a?"}, {Inode: 3, Name: "ab"}, {Inode: 4, Name: "a*"}, {Inode: 5, Name: "a"}, {Inode: 6, Name: "b"}})
	for pattern, want := range map[string]string{
		"a?": `4:"a*" 2:"a?" 3:"ab" `,
		"a*": `5:"a" 4:"a*" 2:"a?" 3:"ab" `,
		"a":  `5:"a" `,
		"?":  `5:"a" 6:"b" `,
		"c":  "",
		"*":  `5:"a" 4:"a*" 2:"a?" 3:"ab" 6:"b" `,
	} {
		if got := (call{op: "Matches", dir: n, s: pattern}).do(x); got != (answer{links: want}) {
			t.Errorf("Matches(%q) = %s; want %s", pattern, got.brief(), want)
		}
	}
	if got := (call{op: "Begins", dir: n, s: "a*"}).do(x); got != (answer{links: `4:"a*" `}) {
		t.Errorf("Begins of a star = %s", got.brief())
	}
}

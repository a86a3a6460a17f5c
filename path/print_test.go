package path_test

import (
	"math/rand/v2"
	"slices"
	"testing"

	"signet/api"
	"signet/path"
)

// 18.2

func wantPrint(t *testing.T, l []string, want string, at int, wantErr api.Errno) {
	t.Helper()
	got, place, err := path.Print(l)
	if got != want || place != at || err != wantErr {
		t.Errorf("Print(%d names, %q) = %q, %d, %d; want %q, %d, %d", len(l), l, cut(got), place, err, cut(want), at, wantErr)
	}
}

func TestPrint(t *testing.T) {
	wantPrint(t, nil, "/", 0, api.OK)
	wantPrint(t, []string{}, "/", 0, api.OK)
	wantPrint(t, []string{"a"}, "/a", 0, api.OK)
	wantPrint(t, []string{"a", "b"}, "/a/b", 0, api.OK)
	wantPrint(t, []string{"a", "a", "..."}, "/a/a/...", 0, api.OK)
	wantPrint(t, []string{"\xff", "é", " ", ".b"}, "/\xff/é/ /.b", 0, api.OK)
	wantPrint(t, []string{long(""), "b"}, "/"+long("")+"/b", 0, api.OK)
	for many := range 33 {
		wantPrint(t, names(many), formOf(names(many)), 0, api.OK)
	}
}

var wrongNames = []string{"", ".", "..", "/", "a/b", "/a", "a/", "\x00", "a\x00b", rep("x", 57), rep("x", 5000), rep("é", 29)}

func TestPrintOfWhatIsNoName(t *testing.T) {
	for _, wrong := range wrongNames {
		for _, many := range []int{1, 2, 3, 31, 32, 33, 34, 40, 100} {
			for place := range many {
				l := names(many)
				l[place] = wrong
				wantPrint(t, l, "", place, api.ErrName)
				for behind := place + 1; behind < many; behind += 7 {
					l[behind] = ""
					wantPrint(t, l, "", place, api.ErrName)
				}
			}
		}
	}
}

func TestPrintOfTooMany(t *testing.T) {
	for _, many := range []int{33, 34, 64, 1000} {
		wantPrint(t, names(many), "", 32, api.ErrDeep)
		wantPrint(t, slices.Repeat([]string{long("")}, many), "", 32, api.ErrDeep)
	}
	wantPrint(t, slices.Repeat([]string{"a"}, 32), rep("/a", 32), 0, api.OK)
}

func TestPrintOfTheGreatestLength(t *testing.T) {
	for bytes := 1000; bytes <= 1024; bytes++ {
		wantPrint(t, wide(bytes), formOf(wide(bytes)), 0, api.OK)
	}
	for bytes := 1025; bytes <= 1100; bytes++ {
		wantPrint(t, wide(bytes), "", 0, api.ErrLong)
	}
	// 32 names of 31 bytes are just as long as may be.
	l := slices.Repeat([]string{rep("y", 31)}, 32)
	wantPrint(t, l, rep("/"+rep("y", 31), 32), 0, api.OK)
	l[31] += "y"
	wantPrint(t, l, "", 0, api.ErrLong)
	l[31] = "/"
	wantPrint(t, l, "", 31, api.ErrName)
	wantPrint(t, slices.Repeat([]string{long("")}, 32), "", 0, api.ErrLong)
	wantPrint(t, append(slices.Repeat([]string{long("")}, 40), ".."), "", 40, api.ErrName)
}

func wantClean(t *testing.T, s string) {
	t.Helper()
	want := read(s)
	got, err := path.Clean(s)
	wantText(t, "Clean of "+cut(s), got, err, formOf(want.names), want.err)
}

func TestClean(t *testing.T) {
	for s, want := range map[string]string{
		"/": "/", "///": "/", "/.": "/", "/..": "/", "/../..": "/", "/a/..": "/", "/a/../": "/", "/./": "/",
		"/a": "/a", "/a/": "/a", "//a": "/a", "//a/.": "/a", "/a/b/..": "/a", "/./a": "/a", "/../a": "/a", "/b/../a//": "/a", "/a/./b/../": "/a",
		"/a/b": "/a/b", "/a//b/": "/a/b", "/a//b/./c/../d": "/a/b/d", "/...": "/...", "/\xff/": "/\xff",
		rep("/", 1024): "/", deep(32) + "/": deep(32), formOf(wide(1024)): formOf(wide(1024)),
	} {
		got, err := path.Clean(s)
		wantText(t, "Clean of "+cut(s), got, err, want, api.OK)
	}
	for s, want := range map[string]api.Errno{
		"": api.ErrPath, "a": api.ErrPath, ".": api.ErrPath, "../a": api.ErrPath, rep("/", 1025): api.ErrLong, rep("a", 1025): api.ErrLong, "/\x00": api.ErrName, "/a/" + long("") + "x/..": api.ErrName, deep(33): api.ErrDeep, deep(33) + "/..": api.ErrDeep,
	} {
		got, err := path.Clean(s)
		wantText(t, "Clean of "+cut(s), got, err, "", want)
	}
}

func TestCleanOfManyTexts(t *testing.T) {
	for _, s := range edges() {
		wantClean(t, s)
	}
	for _, s := range texts([]string{"/", ".", "a"}, 8) {
		wantClean(t, s)
	}
	r := rand.New(rand.NewPCG(18, 2))
	for range 30000 {
		wantClean(t, drawn(r))
	}
}

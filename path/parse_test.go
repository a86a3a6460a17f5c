package path_test

import (
	"math/rand/v2"
	"testing"

	"signet/api"
	"signet/path"
)

// 18.1

// parsed is what Parse answers.
func parsed(s string) told {
	p, at, err := path.Parse(s)
	return told{names: p.Names, dir: p.Dir, at: at, err: err}
}

func wantParse(t *testing.T, s string, want told) {
	t.Helper()
	if got := parsed(s); !got.same(want) {
		t.Errorf("Parse(%q) = %v; want %v", cut(s), got, want)
	}
}

func TestParse(t *testing.T) {
	a, ab := []string{"a"}, []string{"a", "b"}
	for _, c := range []struct {
		s     string
		names []string
		dir   bool
	}{
		{"/", nil, true}, {"//", nil, true}, {rep("/", 1024), nil, true},
		{"/a", a, false}, {"//a", a, false}, {"/a/", a, true}, {"/a//", a, true}, {"/a/b", ab, false}, {"///a///b", ab, false}, {"/a/b//", ab, true},
		{"/.", nil, true}, {"/./", nil, true}, {"/./.", nil, true}, {"/./a", a, false}, {"/a/.", a, true}, {"/a/./", a, true}, {"/a/./b", ab, false}, {"/a/././b/.", ab, true}, {rep("/.", 512), nil, true},
		{"/..", nil, true}, {"/../", nil, true}, {"/../..", nil, true}, {"/../a", a, false}, {"/a/..", nil, true}, {"/a/../", nil, true}, {"/b/../a", a, false}, {"/a/b/..", a, true}, {"/a/b/../", a, true}, {"/a/b/../..", nil, true},
		{"/a/../../b/../../../a", a, false}, {"/a/../..", nil, true}, {"/x/y/../../a/b", ab, false}, {"/x/./../a", a, false}, {"/x/..//./a", a, false}, {"/a/b/c/.././", ab, true}, {"/../../../..", nil, true},
		{"/...", []string{"..."}, false}, {"/..../", []string{"...."}, true}, {"/.a", []string{".a"}, false}, {"/a.", []string{"a."}, false}, {"/..a", []string{"..a"}, false}, {"/a..", []string{"a.."}, false}, {"/. ", []string{". "}, false}, {"/.. /a", []string{".. ", "a"}, false}, {"/a/...", []string{"a", "..."}, false},
		{"/\xff\xfe", []string{"\xff\xfe"}, false}, {"/é", []string{"é"}, false}, {"/\n", []string{"\n"}, false}, {"/\\", []string{"\\"}, false}, {"/*/?", []string{"*", "?"}, false},
		{"/" + long(""), []string{long("")}, false}, {"/a/" + long("b") + "/", []string{"a", long("b")}, true}, {"/" + rep("é", 28), []string{rep("é", 28)}, false}, {"/" + rep(".", 56), []string{rep(".", 56)}, false},
	} {
		wantParse(t, c.s, told{names: c.names, dir: c.dir})
	}
}

func TestParseOfWhatIsNoPath(t *testing.T) {
	for _, s := range []string{"", "a", "a/", "a/b", ".", "..", "./", "../a", " /", "\x00", "\x00/a", "\\", rep("a", 57), rep("a", 1024), rep("../", 341), "é/a", "∕"} {
		wantParse(t, s, told{err: api.ErrPath})
	}
}

func TestParseOfTheGreatestLength(t *testing.T) {
	for _, c := range []struct {
		s    string
		want told
	}{
		{formOf(wide(1023)), told{names: wide(1023)}},
		{formOf(wide(1024)), told{names: wide(1024)}},
		{formOf(wide(1023)) + "/", told{names: wide(1023), dir: true}},
		{formOf(wide(1024)) + "/", told{at: 1024, err: api.ErrLong}},
		{formOf(wide(1025)), told{at: 1024, err: api.ErrLong}},
		{rep("/", 1023) + "a", told{names: []string{"a"}}},
		{rep("/", 1024) + "a", told{at: 1024, err: api.ErrLong}},
		{rep("/", 1025), told{at: 1024, err: api.ErrLong}},
		{rep("/.", 512) + "/", told{at: 1024, err: api.ErrLong}},
		{rep("/", 5000), told{at: 1024, err: api.ErrLong}},
		{"/" + rep("a", 1<<20), told{at: 1024, err: api.ErrLong}},
	} {
		wantParse(t, c.s, c.want)
	}
}

// Too long comes ahead of no slash at the front, that ahead of a wrong part, and of these the first one.
func TestParseTellsTheFirstError(t *testing.T) {
	for _, c := range []struct {
		s   string
		at  int
		err api.Errno
	}{
		{rep("a", 1025), 1024, api.ErrLong}, {rep("\x00", 1025), 1024, api.ErrLong}, {"/" + rep("\x00", 1024), 1024, api.ErrLong}, {rep("/a", 513), 1024, api.ErrLong},
		{"\x00", 0, api.ErrPath}, {rep("a/", 33), 0, api.ErrPath}, {rep("a", 57), 0, api.ErrPath}, {rep("a", 1024), 0, api.ErrPath},
		{"/\x00" + deep(33), 1, api.ErrName}, {deep(33) + "/\x00", 71, api.ErrDeep}, {deep(32) + "/\x00", 71, api.ErrName}, {deep(32) + "/" + long("") + "y", 71, api.ErrName}, {deep(32) + "/\x00/z", 71, api.ErrName}, {deep(32) + "/z/\x00", 71, api.ErrDeep},
		{"/" + long("") + "x/\x00", 1, api.ErrName}, {"/a/\x00/" + long("") + "x", 3, api.ErrName}, {"/" + rep("a", 1023), 1, api.ErrName},
	} {
		wantParse(t, c.s, told{at: c.at, err: c.err})
	}
}

func TestParseTellsThePlaceOfAWrongPart(t *testing.T) {
	for _, ahead := range []string{"/", "//", "///", "/a/", "/a//", "/./", "/../", "/a/../", "/a/b/", "/" + long("") + "/", deep(31) + "/", deep(32) + "/../", deep(32) + "/"} {
		for _, part := range []string{long("") + "x", rep("x", 100), rep(".", 57), rep("é", 29), "\x00", "a\x00", "\x00a", ".\x00", "..\x00", "\x00.", long("")[1:] + "\x00"} {
			for _, back := range []string{"", "/", "/a", "/..", "/.", "//", "/\x00", "/../.."} {
				wantParse(t, ahead+part+back, told{at: len(ahead), err: api.ErrName})
			}
		}
	}
}

func TestParseOfTheGreatestDepth(t *testing.T) {
	l := names(32)
	for _, c := range []struct {
		s    string
		want told
	}{
		{deep(31), told{names: l[:31]}}, {deep(32), told{names: l}}, {deep(32) + "/", told{names: l, dir: true}}, {deep(32) + "//.", told{names: l, dir: true}},
		{deep(33), told{at: 71, err: api.ErrDeep}}, {deep(32) + "//z", told{at: 72, err: api.ErrDeep}}, {deep(32) + "/./z", told{at: 73, err: api.ErrDeep}}, {deep(32) + "/z/", told{at: 71, err: api.ErrDeep}},
		// What is taken away later is one too many all the same; what was taken away ahead is not counted.
		{deep(33) + "/..", told{at: 71, err: api.ErrDeep}}, {deep(32) + "/z/../..", told{at: 71, err: api.ErrDeep}},
		{deep(32) + "/..", told{names: l[:31], dir: true}}, {deep(32) + "/../" + l[31], told{names: l}}, {deep(32) + "/../y/z", told{at: 76, err: api.ErrDeep}},
		{deep(32) + rep("/..", 32), told{dir: true}}, {deep(32) + rep("/..", 40) + deep(32), told{names: l}}, {deep(32) + rep("/..", 32) + deep(33), told{at: 70 + 96 + 71, err: api.ErrDeep}},
		{rep("/a/..", 204), told{dir: true}}, {rep("/..", 300) + deep(32), told{names: l}}, {rep("/..", 300) + deep(33), told{at: 971, err: api.ErrDeep}},
	} {
		wantParse(t, c.s, c.want)
	}
}

func TestParseOfEdges(t *testing.T) {
	for _, s := range edges() {
		wantParse(t, s, read(s))
	}
}

func TestParseOfAllShortTexts(t *testing.T) {
	for _, s := range texts([]string{"/", ".", "a"}, 9) {
		wantParse(t, s, read(s))
	}
	for _, s := range texts([]string{"/", "..", "a", "b", "\x00", long(""), "/."}, 5) {
		wantParse(t, s, read(s))
	}
}

func TestParseOfDrawnTexts(t *testing.T) {
	r := rand.New(rand.NewPCG(18, 1))
	met := map[api.Errno]int{}
	for range 100000 {
		s := drawn(r)
		wantParse(t, s, read(s))
		met[read(s).err]++
	}
	for _, err := range []api.Errno{api.OK, api.ErrPath, api.ErrLong, api.ErrDeep, api.ErrName} {
		if met[err] < 100 {
			t.Errorf("of the drawn texts %d tell %d: too few", met[err], err)
		}
	}
}

// Each byte alone is a name, but for the stop, the slash and the zero.
func TestParseOfEachByte(t *testing.T) {
	for b := range 256 {
		part := string([]byte{byte(b)})
		for _, s := range []string{"/" + part, "/x" + part + "y", part, "/a/" + part + "/b"} {
			wantParse(t, s, read(s))
		}
	}
}

package path_test

import (
	"math/rand/v2"
	"slices"
	"strings"
	"testing"
	"unsafe"

	"signet/api"
)

// rep is a text, several times.
func rep(s string, many int) string {
	return strings.Repeat(s, many)
}

// long is a name of the greatest length, which begins with a text.
func long(s string) string {
	return s + rep("x", api.MaxName-len(s))
}

// names is a list of names, unlike ones.
func names(many int) []string {
	var l []string
	for i := range many {
		l = append(l, string(rune('a'+i%26))+rep("'", i/26))
	}
	return l
}

// deep is a path of that many names.
func deep(many int) string {
	return "/" + strings.Join(names(many), "/")
}

// wide is names whose one form has that many bytes, in at most MaxDepth names.
func wide(bytes int) []string {
	var l []string
	for bytes > 0 {
		// Never is a slash alone left, behind which no name could stand.
		part := min(bytes, api.MaxName+1)
		if bytes-part == 1 {
			part--
		}
		l, bytes = append(l, rep("w", part-1)), bytes-part
	}
	return l
}

// isName tells byte by byte whether a text is a name.
func isName(s string) bool {
	return len(s) >= 1 && len(s) <= 56 && s != "." && s != ".." && strings.IndexByte(s, 0) < 0 && strings.IndexByte(s, '/') < 0
}

// told is what Parse answers.
type told struct {
	names []string
	dir   bool
	at    int
	err   api.Errno
}

func (a told) same(b told) bool {
	return slices.Equal(a.names, b.names) && a.dir == b.dir && a.at == b.at && a.err == b.err
}

// read is Parse, byte by byte: at each slash, and at the end, what stood behind the last slash is a part.
func read(s string) told {
	if len(s) > 1024 {
		return told{at: 1024, err: api.ErrLong}
	}
	if s == "" || s[0] != '/' {
		return told{err: api.ErrPath}
	}
	var l []string
	from := 1
	for i := 1; i <= len(s); i++ {
		if i < len(s) && s[i] != '/' {
			continue
		}
		switch part := s[from:i]; {
		case part == "" || part == ".":
		case part == ".." && len(l) > 0:
			l = slices.Clone(l[:len(l)-1])
		case part == "..":
		case !isName(part):
			return told{at: from, err: api.ErrName}
		case len(l) == 32:
			return told{at: from, err: api.ErrDeep}
		default:
			l = append(l, part)
		}
		from = i + 1
	}
	end := s[strings.LastIndexByte(s, '/')+1:]
	return told{names: l, dir: end == "" || end == "." || end == ".."}
}

// formOf is the one form of names: a slash ahead of each, of none a slash alone.
func formOf(l []string) string {
	s := ""
	for _, n := range l {
		s += "/" + n
	}
	if s == "" {
		return "/"
	}
	return s
}

// begin is the names that both lists begin with.
func begin(a, b []string) []string {
	var l []string
	for i := 0; i < len(a) && i < len(b) && a[i] == b[i]; i++ {
		l = append(l, a[i])
	}
	return l
}

// texts is all texts of some pieces, up to that many of them.
func texts(pieces []string, most int) []string {
	all := []string{""}
	last := all
	for range most {
		var next []string
		for _, s := range last {
			for _, p := range pieces {
				next = append(next, s+p)
			}
		}
		all = append(all, next...)
		last = next
	}
	return all
}

// drawn is a text of pieces as they come: mostly a path, now and then with a wrong part, deep ones and long ones among them.
func drawn(r *rand.Rand) string {
	common := []string{"/", "/", "//", "/a", "/b", "/a", "/c", "/..", "/.", "/...", "/.b", "/..a", "/a.", "/\xff", "/é", "/a*", "/?"}
	rare := []string{"/" + rep("n", 55), "/" + rep("n", 56), "/" + rep("n", 57), "/\x00", "/a\x00b", "..", ".", "a", "/" + rep("m", 31)}
	var b strings.Builder
	if r.IntN(40) == 0 {
		b.WriteString(rep("/", 950+r.IntN(100)))
	}
	for range r.IntN(12) + r.IntN(2)*r.IntN(45) {
		if r.IntN(12) == 0 {
			b.WriteString(rare[r.IntN(len(rare))])
		} else {
			b.WriteString(common[r.IntN(len(common))])
		}
	}
	if r.IntN(8) > 0 && !strings.HasPrefix(b.String(), "/") {
		return "/" + b.String()
	}
	return b.String()
}

// edges is texts that stand at an edge of the chapter, right ones and wrong ones.
func edges() []string {
	return []string{
		"", "a", "a/b", ".", "..", "./a", "../a", " /a", "\x00/a", "\x00", rep("a", 57), "\\a", "∕a",
		"/", "//", "///", rep("/", 1023), rep("/", 1024), rep("/", 1025),
		"/a", "//a", "/a/", "/a//", "///a///b///", "/a/b", "/a//b", "/a//b/./c/../d",
		"/.", "/./", "/..", "/../", "/./.", "/../..", "/./..", "/.././", "//.", "//..", "/.//", "/..//",
		"/./a", "/../a", "/a/.", "/a/./", "/a/..", "/a/../", "/a/./b", "/a/../b", "/a/b/..", "/a/b/../", "/a/b/../..", "/a/b/../../", "/a/b/../../..", "/a/../..", "/a/../../b", "/../../../a/../../../b",
		"/...", "/..../", "/.a", "/a.", "/..a", "/a..", "/. ", "/ .", "/ ", "/.../..", "/a/...", "/.\x00", "/..\x00", "/\x00", "/a/\x00/b", "/a\x00", "/a/b\x00c/d",
		"/\xff", "/\x80/\xff\xfe", "/é/名前", "/\n", "/*", "/?", "/a*/?", "/\\", "/a\\b",
		"/" + long(""), "/a/" + long("") + "/b", "/" + long("") + "x", "/a/" + long("") + "x", "/a/" + long("") + "x/b", "/./" + long("") + "x", "/../" + long("") + "x/..", "/" + rep(".", 56), "/" + rep(".", 57), "/" + rep("é", 28), "/" + rep("é", 29),
		deep(31), deep(32), deep(33), deep(34), deep(32) + "/", deep(32) + "/.", deep(32) + "/..", deep(33) + "/..", deep(32) + "/../z", deep(32) + "/../y/z", deep(32) + "/./z", deep(31) + "/../y/z", deep(32) + rep("/..", 32), deep(32) + rep("/..", 33) + deep(32), deep(32) + rep("/..", 32) + deep(33), deep(32) + "/../../y/z", deep(32) + "/../../x/y/z", rep("/a/..", 200), rep("/..", 341), rep("/..", 342),
		deep(32) + "/" + long("") + "x", deep(32) + "/\x00", deep(33) + "/\x00", "/\x00" + deep(33), deep(32) + "/./\x00", deep(32) + "//z", rep("z/", 33),
		formOf(wide(1023)), formOf(wide(1024)), formOf(wide(1025)), formOf(wide(1023)) + "/", formOf(wide(1024)) + "/", rep("/.", 512), rep("/.", 512) + "/", rep("/a", 512), rep("a", 1024), rep("a", 1025), rep("\x00", 1025), rep("/a", 513), "/" + rep("a", 1023), "/" + rep("a", 1024),
		rep("/", 1023) + "a", rep("/", 1024) + "a", rep("/", 1022) + "..", rep("/", 1023) + "..", rep("/"+long(""), 17) + "/" + rep("a", 54), rep("/"+long(""), 17) + "/" + rep("a", 55), rep("x", 100000),
	}
}

// roomy is a list with spare room behind its end, which no call may write to.
func roomy(l []string) []string {
	return append(slices.Grow(slices.Clone(l), 9), "spare", "room")[:len(l)]
}

// untouched tells whether a roomy list, and the room behind it, are as they were.
func untouched(l, was []string) bool {
	return slices.Equal(l, was) && slices.Equal(l[len(l):len(l)+2], []string{"spare", "room"})
}

// apart tells whether two texts lie in memory that they do not share.
func apart(a, b string) bool {
	if a == "" || b == "" {
		return true
	}
	x, y := uintptr(unsafe.Pointer(unsafe.StringData(a))), uintptr(unsafe.Pointer(unsafe.StringData(b)))
	return x+uintptr(len(a)) <= y || y+uintptr(len(b)) <= x
}

// cut is a text, short enough to be told.
func cut(s string) string {
	if len(s) > 80 {
		return s[:40] + ".." + s[len(s)-38:]
	}
	return s
}

// wantText asks for a text or an error, with the zero value beside an error.
func wantText(t *testing.T, what, got string, err api.Errno, want string, wantErr api.Errno) {
	t.Helper()
	if wantErr != api.OK {
		want = ""
	}
	if got != want || err != wantErr {
		t.Errorf("%s = %q, %d; want %q, %d", what, cut(got), err, cut(want), wantErr)
	}
}

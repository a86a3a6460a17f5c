package name_test

import (
	"math"
	"math/big"
	"slices"
	"strings"
	"testing"

	"signet/api"
)

// zeros is 64 zeros, what stands where there is no entry.
var zeros = strings.Repeat("\x00", 64)

// rightInodes and wrongInodes are the edges of the numbers that an entry may have, and others.
var (
	rightInodes = []int{1, 2, 3, 127, 128, 255, 256, 257, 1000, 4095, api.MaxInodes}
	wrongInodes = []int{-1, 0, api.MaxInodes + 1, -2, -api.MaxInodes, 1 << 16, 1<<16 + 1, 1 << 32, 1<<32 + 1, -1<<32 + 1, math.MinInt, math.MinInt + 1, math.MaxInt}
)

// rightNames and wrongNames are texts that may be names and texts that may not.
var (
	rightNames = []string{
		"a", "...", "....", ".a", "a.", "..a", ". ", " .", ". .", " ", "\n", "\t", "\x01", "\x7f", "\x80", "\xff", "\xff\xfe", "\xc3", "\xc3(", "\xe2\x82", "\xef\xbf\xbd",
		"é", "名前", "\\", "a\\b", "*", "?", "a:b", "0", "-1", "A", "aa", "ab", "∕", "．",
		strings.Repeat("a", 2), strings.Repeat("b", 8), strings.Repeat("c", 9), strings.Repeat("d", 55), strings.Repeat("e", 56),
		strings.Repeat(".", 56), strings.Repeat("\xff", 56), strings.Repeat("é", 28), strings.Repeat(".", 3),
	}
	wrongNames = []string{
		"", ".", "..", "/", "//", "/a", "a/b", "a/", "./", "../", "/.", "/..", ".//", "\x00", "\x00a", "a\x00b", "a\x00", ".\x00", "..\x00", "\x00.", "\x00/", "a/\x00",
		"\xe2/", "\xff/\xff", "\xe2\x00\x82", "éé/", "名/前",
		strings.Repeat("a", 57), strings.Repeat("b", 58), strings.Repeat("c", 64), strings.Repeat("d", 256), strings.Repeat("e", 1<<16+1),
		strings.Repeat(".", 57), strings.Repeat("\xff", 57), strings.Repeat("é", 28) + "é", strings.Repeat("é", 29), "/" + strings.Repeat("a", 55), strings.Repeat("a", 55) + "/", strings.Repeat("a", 55) + "\x00",
		strings.Repeat("a", 9) + "/" + strings.Repeat("a", 9), strings.Repeat("a", 9) + "\x00" + strings.Repeat("a", 9),
	}
)

// link is an entry; its form saves the names of the fields at each one.
func link(inode int, name string) api.Link {
	return api.Link{Inode: inode, Name: name}
}

// inBytes is an entry in bytes, laid byte by byte as the document says, whether it may be or not.
func inBytes(inode int, name string) string {
	b := make([]byte, 64)
	b[0], b[1], b[2], b[3] = byte(inode), byte(inode>>8), byte(inode>>16), byte(inode>>24)
	b[4], b[5] = byte(len(name)), byte(len(name)>>8)
	copy(b[8:], name)
	return string(b)
}

// filled is a block that begins with a text.
func filled(s string) api.Block {
	var b api.Block
	copy(b[:], s)
	return b
}

// mayBe tells byte by byte whether a text may be a name.
func mayBe(s string) bool {
	for i := range len(s) {
		if s[i] == 0 || s[i] == '/' {
			return false
		}
	}
	return len(s) >= 1 && len(s) <= 56 && s != "." && s != ".."
}

// entry is what 64 bytes say, asked byte by byte.
func entry(s string) (api.Link, bool, api.Errno) {
	if s == zeros {
		return api.Link{}, false, api.OK
	}
	inode := int(s[0]) + int(s[1])<<8 + int(s[2])<<16 + int(s[3])<<24
	length := int(s[4]) + int(s[5])<<8
	if inode < 1 || inode > 4096 || length > 56 || s[6] != 0 || s[7] != 0 {
		return api.Link{}, false, api.ErrEntry
	}
	name, behind := s[8:8+length], s[8+length:]
	if !mayBe(name) || behind != zeros[:len(behind)] {
		return api.Link{}, false, api.ErrEntry
	}
	return link(inode, name), true, api.OK
}

// before is Compare, byte by byte.
func before(a, b string) int {
	for i := range min(len(a), len(b)) {
		if a[i] < b[i] {
			return -1
		}
		if a[i] > b[i] {
			return 1
		}
	}
	switch {
	case len(a) < len(b):
		return -1
	case len(a) > len(b):
		return 1
	}
	return 0
}

// fits is Match, in the plainest way: each * is tried with all that it may stand for.
func fits(pattern, s string) bool {
	if pattern == "" {
		return s == ""
	}
	if pattern[0] == '*' {
		for i := range len(s) + 1 {
			if fits(pattern[1:], s[i:]) {
				return true
			}
		}
		return false
	}
	return s != "" && (pattern[0] == '?' || pattern[0] == s[0]) && fits(pattern[1:], s[1:])
}

// part is a byte that is no digit, or a stretch of digits as a number.
type part struct {
	first  byte
	number *big.Int
}

// partsOf is a text, cut into bytes and numbers.
func partsOf(s string) []part {
	var l []part
	for i := 0; i < len(s); {
		end := i
		for end < len(s) && s[end] >= '0' && s[end] <= '9' {
			end++
		}
		if end == i {
			l = append(l, part{first: s[i]})
			i++
			continue
		}
		n, _ := new(big.Int).SetString(s[i:end], 10)
		l = append(l, part{first: s[i], number: n})
		i = end
	}
	return l
}

// counted is Digits, by numbers of any length.
func counted(a, b string) int {
	first := slices.CompareFunc(partsOf(a), partsOf(b), func(x, y part) int {
		if x.number != nil && y.number != nil {
			return x.number.Cmp(y.number)
		}
		return int(x.first) - int(y.first)
	})
	switch {
	case first < 0:
		return -1
	case first > 0:
		return 1
	}
	return before(a, b)
}

// roomy is a list with spare room behind its end, which no call may write to.
func roomy(l []api.Link) []api.Link {
	return append(slices.Grow(slices.Clone(l), 9), link(77, "spare"), link(78, "room"))[:len(l)]
}

// spare tells whether the room behind a roomy list is as it was.
func spare(l []api.Link) bool {
	behind := l[len(l) : len(l)+2]
	return behind[0] == link(77, "spare") && behind[1] == link(78, "room")
}

// wantErr fails where there is not just an error, with zero values beside it.
func wantErr(t *testing.T, what string, got, want api.Errno, rest ...bool) {
	t.Helper()
	if got != want {
		t.Errorf("%s: error %d; want %d", what, got, want)
	}
	if slices.Contains(rest, false) {
		t.Errorf("%s: what stands beside error %d is not the zero value", what, got)
	}
}

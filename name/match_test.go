package name_test

import (
	"math/rand/v2"
	"strings"
	"testing"

	"signet/name"
)

func TestMatch(t *testing.T) {
	for _, c := range []struct {
		pattern string
		yes, no []string
	}{
		{"", []string{""}, []string{"a", " ", "\x00", "*", "?"}},
		{"a", []string{"a"}, []string{"", "b", "A", "aa", "ab", "ba", "\x00a", "a\x00"}},
		{"abc", []string{"abc"}, []string{"", "a", "ab", "abcd", "xabc", "abd", "aBc", "bca"}},
		{"?", []string{"a", "?", "*", "/", "\x00", "\xff", "\xc3"}, []string{"", "ab", "é", "\xff\xff"}},
		{"??", []string{"ab", "é", "\xff\xff", "??"}, []string{"", "a", "abc", "éa"}},
		{"?a", []string{"aa", "ba", "\xc3a"}, []string{"a", "ab", "aaa", "éa", ""}},
		{"a?", []string{"aa", "ab", "a?", "a\xff"}, []string{"a", "ba", "aaa", ""}},
		{"a?c", []string{"abc", "acc", "a?c", "a*c", "a/c"}, []string{"ac", "abbc", "abd", "xbc", "abcc"}},
		{"a??c", []string{"abbc", "aéc"}, []string{"ac", "abc", "abbbc"}},
		{"*", []string{"", "a", "abc", "*", "/", "a/b", "\x00", "\xff\xfe", "é", strings.Repeat("x", 1000)}, nil},
		{"**", []string{"", "a", "abc", "\xff"}, nil},
		{"*****", []string{"", "a", "abc", "\x00"}, nil},
		{"*a", []string{"a", "aa", "ba", "bbba", "aba", "*a"}, []string{"", "b", "ab", "aab", "abab"}},
		{"a*", []string{"a", "aa", "ab", "abbb", "a*", "a\x00", "a/"}, []string{"", "b", "ba", "*a"}},
		{"a*c", []string{"ac", "abc", "abbc", "acc", "acbc", "accc", "a*c", "a/c"}, []string{"", "a", "c", "ab", "acb", "xac", "abcb"}},
		{"a*b*c", []string{"abc", "axbxc", "abbcc", "abcbc", "acbc", "abcabc"}, []string{"", "ac", "abcb", "acb", "bac", "cba"}},
		{"a**c", []string{"ac", "abc", "abbc"}, []string{"a", "c", "abcb"}},
		{"a***", []string{"a", "ab", "abc"}, []string{"", "ba"}},
		{"***a", []string{"a", "ba", "cba"}, []string{"", "ab"}},
		{"*a*", []string{"a", "ba", "ab", "bab", "aaa"}, []string{"", "b", "bbb"}},
		{"*?", []string{"a", "ab", "\xff"}, []string{""}},
		{"?*", []string{"a", "ab", "abc"}, []string{""}},
		{"*?*", []string{"a", "ab", "abc"}, []string{""}},
		{"?*?", []string{"ab", "abc", "é"}, []string{"", "a"}},
		{"*??*??*", []string{"abcd", "abcde"}, []string{"", "a", "ab", "abc"}},
		{"a*c?", []string{"abbcd", "acd", "accc", "acca"}, []string{"abbc", "ac", "acdd", "abd"}},
		{"*ab", []string{"ab", "aab", "abab", "aaab"}, []string{"aba", "a", "b", "abb"}},
		{"*aab", []string{"aab", "aaab", "aaaab", "aabaab"}, []string{"ab", "aaa", "aabb"}},
		{"*ab*ab", []string{"abab", "ababab", "abxab", "aabab"}, []string{"ab", "aab", "abaxb", "abba"}},
		{"*.go", []string{".go", "a.go", "a.go.go"}, []string{"go", "a.g", "a.gox", "a.go.g"}},
		{"\xff*\xfe", []string{"\xff\xfe", "\xff\x00\xfe", "\xffé\xfe", "\xff\xff\xfe\xfe"}, []string{"\xfe\xff", "\xff", "\xfe"}},
		{"\xc3?", []string{"é", "\xc3\xff", "\xc3a"}, []string{"\xc3", "\xc4\xa9", "éa"}},
		{"\x00", []string{"\x00"}, []string{"", "0", "\x00\x00"}},
		{"\\*", []string{"\\", "\\a", "\\*"}, []string{"*", "a", ""}},
		{"\\?", []string{"\\a", "\\?"}, []string{"?", "\\", ""}},
		{"[ab]", []string{"[ab]"}, []string{"a", "b"}},
	} {
		for _, s := range c.yes {
			if !name.Match(c.pattern, s) {
				t.Errorf("Match(%q, %q) is false", c.pattern, s)
			}
		}
		for _, s := range c.no {
			if name.Match(c.pattern, s) {
				t.Errorf("Match(%q, %q) is true", c.pattern, s)
			}
		}
	}
}

// texts is all texts of some letters, up to a length.
func texts(letters string, most int) []string {
	l := []string{""}
	for first := 0; first < len(l); first++ {
		if len(l[first]) == most {
			break
		}
		for i := range len(letters) {
			l = append(l, l[first]+letters[i:i+1])
		}
	}
	return l
}

func TestMatchOfAllShortTexts(t *testing.T) {
	all := texts("ab", 6)
	for _, pattern := range texts("ab?*", 5) {
		for _, s := range all {
			if got, want := name.Match(pattern, s), fits(pattern, s); got != want {
				t.Fatalf("Match(%q, %q) = %v", pattern, s, got)
			}
		}
	}
}

func TestMatchOfEachByte(t *testing.T) {
	for a := range 256 {
		for b := range 256 {
			pattern, s := string([]byte{byte(a)}), string([]byte{byte(b)})
			if got, want := name.Match(pattern, s), a == b || a == '?' || a == '*'; got != want {
				t.Errorf("Match(%q, %q) = %v", pattern, s, got)
			}
		}
	}
}

func TestMatchOfLongerTexts(t *testing.T) {
	r := rand.New(rand.NewPCG(13, 6))
	took := 0
	for range 20000 {
		s := someOf(r, "ab", 20)
		pattern := s
		for range r.IntN(4) {
			from := r.IntN(len(pattern) + 1)
			to := from + r.IntN(len(pattern)+1-from)
			pattern = pattern[:from] + someOf(r, "?**a", 3) + pattern[to:]
		}
		want := fits(pattern, s)
		if got := name.Match(pattern, s); got != want {
			t.Fatalf("Match(%q, %q) = %v", pattern, s, got)
		}
		if want {
			took++
		}
	}
	if took < 2000 || took > 18000 {
		t.Errorf("of the 20000 pairs %d fit: too few or too many to tell", took)
	}
}

// someOf is a text of a few bytes.
func someOf(r *rand.Rand, letters string, most int) string {
	b := make([]byte, r.IntN(most+1))
	for i := range b {
		b[i] = letters[r.IntN(len(letters))]
	}
	return string(b)
}

// A way that tried all that each * may stand for would not end here in a lifetime.
func TestMatchEndsWithManyStars(t *testing.T) {
	pattern, s := strings.Repeat("*a", 60)+"*b", strings.Repeat("a", 2000)
	if name.Match(pattern, s) {
		t.Error("Match finds a b where there is none")
	}
	if !name.Match(pattern, s+"b") {
		t.Error("Match does not find the b at the end")
	}
}

func TestDigits(t *testing.T) {
	huge := strings.Repeat("9", 5000)
	for _, c := range []struct {
		a, b string
		want int
	}{
		{"", "", 0}, {"a", "a", 0}, {"10", "10", 0}, {"a10b", "a10b", 0}, {"007", "007", 0}, {"\xff1", "\xff1", 0}, {huge, huge, 0},
		{"9", "10", -1}, {"a9", "a10", -1}, {"a9b", "a10b", -1}, {"a9z", "a10a", -1}, {"a2", "a11", -1}, {"99", "100", -1}, {"1", "2", -1}, {"10", "11", -1}, {"19", "20", -1}, {"a1b2", "a1b10", -1}, {"a1b99", "a2b1", -1},
		{"0", "1", -1}, {"00", "1", -1}, {"0", "01", -1}, {"09", "10", -1}, {"9", "010", -1}, {"009", "10", -1}, {"0000000009", "10", -1}, {"1", "0000000002", -1}, {"a007b", "a8b", -1},
		{"0", "00", -1}, {"01", "1", -1}, {"001", "01", -1}, {"a01", "a1", -1}, {"a01b", "a1b", -1}, {"x00y", "x0y", -1}, {"a01b2", "a1b02", -1}, {"a1b02", "a01b2", 1}, {"a01b02", "a01b2", -1},
		{"a01b1", "a1b2", -1}, {"a1b1", "a01b2", -1}, {"a1b2", "a01b1", 1}, {"a1", "a01b", -1}, {"a01", "a1b", -1}, {"1", "01x", -1},
		{huge, "1" + strings.Repeat("0", 5000), -1}, {huge[1:] + "8", huge, -1}, {strings.Repeat("0", 9000) + "1", "2", -1}, {"9223372036854775807", "9223372036854775808", -1}, {"18446744073709551615", "18446744073709551616", -1}, {"1", "18446744073709551616", -1}, {"a18446744073709551617", "a2", 1},
		{"0" + huge, huge, -1}, {"a" + huge + "b", "a" + huge + "c", -1},
		{"1", "a", -1}, {"9", "a", -1}, {"9", ":", -1}, {"/", "0", -1}, {"!", "1", -1}, {"a1", "aa", -1}, {"a!", "a1", -1}, {"10", "1a", 1}, {"1a", "10", -1}, {"100", "9a", 1}, {"9a", "100", -1}, {"a", "A", 1}, {"9", "\x80", -1}, {"0", "\x00", 1}, {"00", "/", 1}, {"0", ":", -1}, {"0:", ":", -1}, {"00", "0:", -1}, {"000", "a", -1}, {"a00", "a-", 1},
		{"", "0", -1}, {"", "a", -1}, {"a", "ab", -1}, {"a", "a0", -1}, {"a", "a1", -1}, {"a10", "a10b", -1}, {"1", "1a", -1}, {"12", "12a", -1}, {"a", "a\x00", -1}, {"a1", "a1\x00", -1}, {"a1b", "a1b0", -1},
		{"\x7f", "\x80", -1}, {"\x80", "\xff", -1}, {"z", "é", -1}, {"\xff1", "\xff10", -1}, {"\xff9", "\xff10", -1}, {"-1", "-2", -1}, {"1.5", "1.10", -1}, {"١", "٢", -1}, {"²", "10", 1}, {"a b", "a1", -1},
	} {
		if got := name.Digits(c.a, c.b); got != c.want {
			t.Errorf("Digits(%.40q, %.40q) = %d; want %d", c.a, c.b, got, c.want)
		}
		if got := name.Digits(c.b, c.a); got != -c.want {
			t.Errorf("Digits(%.40q, %.40q) = %d; want %d", c.b, c.a, got, -c.want)
		}
	}
}

func TestDigitsOfAllShortTexts(t *testing.T) {
	all := texts("019a/", 4)
	for _, a := range all {
		for _, b := range all {
			if got, want := name.Digits(a, b), counted(a, b); got != want {
				t.Fatalf("Digits(%q, %q) = %d; want %d", a, b, got, want)
			}
		}
	}
}

func TestDigitsOfLongerTexts(t *testing.T) {
	r := rand.New(rand.NewPCG(13, 7))
	for range 50000 {
		a := someOf(r, "0012345678999abc:\xff/", 30)
		b := a
		for range r.IntN(3) {
			at := r.IntN(len(b) + 1)
			b = b[:at] + someOf(r, "00019a:", 3) + b[min(at+r.IntN(3), len(b)):]
		}
		if got, want := name.Digits(a, b), counted(a, b); got != want {
			t.Fatalf("Digits(%q, %q) = %d; want %d", a, b, got, want)
		}
	}
}

func TestDigitsIsAnOrder(t *testing.T) {
	isOrder(t, "Digits", name.Digits, texts("01a/", 3))
	isOrder(t, "Digits", name.Digits, texts("0:", 5))
}

package name

import (
	"cmp"
	"strings"
)

// Match tells whether a text is a pattern.
func Match(pattern, s string) bool {
	// Of several * only the last one that was met need be given more bytes: those ahead of it did with the fewest.
	star, behind := -1, 0
	p, at := 0, 0
	for at < len(s) {
		switch {
		case p < len(pattern) && pattern[p] == '*':
			star, behind = p, at
			p++
		case p < len(pattern) && (pattern[p] == '?' || pattern[p] == s[at]):
			p, at = p+1, at+1
		case star >= 0:
			behind++
			p, at = star+1, behind
		default:
			return false
		}
	}
	return strings.Trim(pattern[p:], "*") == ""
}

// Digits tells which text is less, where digits count as numbers.
func Digits(a, b string) int {
	x, y := a, b
	for x != "" && y != "" {
		m, n := stretch(x), stretch(y)
		first := numbers(x[:m], y[:n])
		if m == 0 || n == 0 {
			m, n = 1, 1
			first = Compare(x[:m], y[:n])
		}
		if first != 0 {
			return first
		}
		x, y = x[m:], y[n:]
	}
	// One of the two is at its end, so that this tells which one goes on.
	return cmp.Or(Compare(x, y), Compare(a, b))
}

// stretch is how many digits a text begins with.
func stretch(s string) int {
	return len(s) - len(strings.TrimLeft(s, "0123456789"))
}

// numbers compares digits as numbers; as texts, since they may be longer than those of any int.
func numbers(a, b string) int {
	a, b = strings.TrimLeft(a, "0"), strings.TrimLeft(b, "0")
	return cmp.Or(cmp.Compare(len(a), len(b)), Compare(a, b))
}

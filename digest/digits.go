package digest

import (
	"strings"

	"signet/api"
)

const (
	digits    = "0123456789abcdef"
	digitBits = 4
	sumDigits = 2 * api.SumBytes
)

// Text is a digest in digits.
func Text(x api.Sum) string {
	var text [sumDigits]byte
	for i, b := range x {
		text[2*i] = digits[b>>digitBits]
		text[2*i+1] = digits[b%(1<<digitBits)]
	}
	return string(text[:])
}

// Parse reads a digest in digits.
func Parse(s string) (api.Sum, int, api.Errno) {
	if at := noDigit(s); at < len(s) {
		return api.Sum{}, at, api.ErrSum
	}
	if len(s) != sumDigits {
		return api.Sum{}, min(len(s), sumDigits), api.ErrSum
	}
	var x api.Sum
	for i := range len(x) {
		x[i] = byte(value(s[2*i])<<digitBits | value(s[2*i+1]))
	}
	return x, 0, api.OK
}

// noDigit is the place of the first byte that is no digit, or the text's length.
func noDigit(s string) int {
	for i := range len(s) {
		if value(s[i]) < 0 {
			return i
		}
	}
	return len(s)
}

// value is what a digit stands for, or -1.
func value(b byte) int {
	return strings.IndexByte(digits, b)
}

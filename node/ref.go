package node

import (
	"cmp"
	"slices"

	"signet/api"
	"signet/block"
	"signet/digest"
	"signet/word"
)

// Of a reference in bytes: the digest stands behind the number.
const (
	numberBytes = 4
	refBytes    = numberBytes + api.SumBytes
)

// None tells whether a reference is none.
func None(r api.Ref) bool {
	return r == api.Ref{}
}

// right tells whether a reference may be: what has a digest lies in a block, and block 0 is never used.
func right(r api.Ref) bool {
	return None(r) || r.At != 0
}

// Encode is a reference in bytes.
func Encode(r api.Ref) string {
	at := word.Bytes32(r.At)
	return string(at[:]) + string(r.Sum[:])
}

// Decode is the reference that stands in a text.
func Decode(s string, at int) (api.Ref, bool) {
	// The sum at+refBytes could pass the greatest int; this difference can't.
	if at < 0 || at > len(s)-refBytes {
		return api.Ref{}, false
	}
	var r api.Ref
	r.At, _ = word.Take32(s, at)
	copy(r.Sum[:], s[at+numberBytes:])
	if !right(r) {
		return api.Ref{}, false
	}
	return r, true
}

// Sum is a block's digest.
func Sum(l *digest.Log, b api.Block) api.Sum {
	return block.Logged(l, b)
}

// Of is a block's reference.
func Of(l *digest.Log, at uint32, b api.Block) api.Ref {
	if at == 0 {
		return api.Ref{}
	}
	return api.Ref{At: at, Sum: Sum(l, b)}
}

// Holds tells whether a block has a reference's digest.
func Holds(l *digest.Log, r api.Ref, b api.Block) bool {
	return Sum(l, b) == r.Sum
}

// Compare tells which reference is less.
func Compare(a, b api.Ref) int {
	return cmp.Or(cmp.Compare(a.At, b.At), digest.Compare(a.Sum, b.Sum))
}

// Unlike is references, each once.
func Unlike(l []api.Ref) []api.Ref {
	seen := map[api.Ref]struct{}{}
	for _, r := range l {
		seen[r] = struct{}{}
	}
	once := make([]api.Ref, 0, len(seen))
	for r := range seen {
		once = append(once, r)
	}
	slices.SortFunc(once, Compare)
	return once
}

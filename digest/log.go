package digest

import (
	"maps"
	"slices"

	"signet/api"
)

// Log keeps all that was digested by it.
type Log struct {
	entries []api.Entry // in the order in which they were first
	sums    map[api.Entry]api.Sum
}

// NewLog is a log without entries.
func NewLog() *Log {
	return &Log{sums: map[api.Entry]api.Sum{}}
}

// Of is a digest, and logged.
func (l *Log) Of(tag byte, s string) api.Sum {
	if l == nil {
		return Of(tag, s)
	}
	e := api.Entry{Tag: tag, Text: s}
	if x, is := l.sums[e]; is {
		return x
	}
	x := Of(tag, s)
	l.add(e, x)
	return x
}

// add puts an entry that is not in the log behind all others.
func (l *Log) add(e api.Entry, x api.Sum) {
	l.entries = append(l.entries, e)
	l.sums[e] = x
}

// Len is how many entries there are.
func (l *Log) Len() int {
	if l == nil {
		return 0
	}
	return len(l.entries)
}

// At is an entry.
func (l *Log) At(n int) (api.Entry, bool) {
	if n < 0 || n >= l.Len() {
		return api.Entry{}, false
	}
	return l.entries[n], true
}

// Has tells whether an entry is there.
func (l *Log) Has(tag byte, s string) bool {
	if l == nil {
		return false
	}
	_, is := l.sums[api.Entry{Tag: tag, Text: s}]
	return is
}

// Collision is two unlike entries with one digest.
func (l *Log) Collision() (int, int, bool) {
	if l == nil {
		return 0, 0, false
	}
	firsts := map[api.Sum]int{}
	for n, e := range l.entries {
		x := l.sums[e]
		// All entries ahead have unlike digests, so the one that is found is the only one of this digest.
		if at, is := firsts[x]; is {
			return at, n, true
		}
		firsts[x] = n
	}
	return 0, 0, false
}

// Clone is another log with the same entries.
func (l *Log) Clone() *Log {
	if l == nil {
		return NewLog()
	}
	return &Log{entries: slices.Clone(l.entries), sums: maps.Clone(l.sums)}
}

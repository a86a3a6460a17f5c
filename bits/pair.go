package bits

import (
	"slices"

	"signet/api"
)

// Clone is a map that is the same.
func (m *Map) Clone() *Map {
	if m == nil {
		return nil
	}
	return &Map{size: m.size, words: slices.Clone(m.words)}
}

// Same tells whether two maps are the same.
func (m *Map) Same(o *Map) bool {
	if m == nil || o == nil {
		return m == o
	}
	return m.size == o.size && slices.Equal(m.words, o.words)
}

// Either is 1 where one of both is.
func (m *Map) Either(o *Map) (*Map, api.Errno) {
	return m.with(o, func(a, b uint64) uint64 { return a | b })
}

// Less is 1 where the first one is, and not the second one.
func (m *Map) Less(o *Map) (*Map, api.Errno) {
	return m.with(o, func(a, b uint64) uint64 { return a &^ b })
}

// Cross is 1 where both are.
func (m *Map) Cross(o *Map) (*Map, api.Errno) {
	return m.with(o, func(a, b uint64) uint64 { return a & b })
}

// with is the map of what each two words of two maps come to. Two zeros must come to 0, so that what is behind the end stays so.
func (m *Map) with(o *Map, both func(a, b uint64) uint64) (*Map, api.Errno) {
	if m == nil && o == nil {
		return nil, api.ErrArg
	}
	if m == nil || o == nil || m.size != o.size {
		return nil, api.ErrSize
	}
	made := m.Clone()
	for i, w := range o.words {
		made.words[i] = both(made.words[i], w)
	}
	return made, api.OK
}

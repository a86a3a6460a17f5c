package bits

import (
	"slices"

	"signet/api"
	"signet/block"
	"signet/word"
)

// A leaf begins with a word and its number, so that no other leaf is taken for it; zeros follow up to the bits, which fill the half of it.
const (
	mark      = "bits"
	numberAt  = len(mark)
	bitsAt    = api.BlockBytes / 2
	byteBits  = 8
	wordBytes = wordBits / byteBits
	leafWords = (api.BlockBytes - bitsAt) / wordBytes
	leafShift = 10
	leafBits  = 1 << leafShift
)

// leaves is how many leaves a map of a size has.
func leaves(size int) int {
	many, _ := word.Over(size, leafShift)
	return many
}

// Leaves is the leaves of a map.
func (m *Map) Leaves() []api.Block {
	var l []api.Block
	for number := range leaves(m.Size()) {
		l = append(l, m.leaf(number))
	}
	return l
}

// leaf is the leaf of a number.
func (m *Map) leaf(number int) api.Block {
	b, _ := block.Of(mark)
	b, _ = block.Lay32(b, numberAt, uint32(number))
	for i, w := range m.words[number*leafWords:][:leafWords] {
		b, _ = block.Lay64(b, bitsAt+i*wordBytes, w)
	}
	return b
}

// FromLeaves is the map of leaves.
func FromLeaves(size int, l []api.Block) (*Map, api.Errno) {
	m, err := New(size)
	if err != api.OK {
		return nil, err
	}
	if len(l) != leaves(size) {
		return nil, api.ErrLeaves
	}
	for place := range size {
		at := place % leafBits
		if l[place/leafBits][bitsAt+at/byteBits]>>(at%byteBits)&1 == 1 {
			m.Set(place)
		}
	}
	// A map has one list of leaves alone: whatever else stands in l, a bit behind the end too, is missing in the one that is laid anew.
	if !slices.Equal(m.Leaves(), l) {
		return nil, api.ErrLeaves
	}
	return m, api.OK
}

package slot

import (
	"signet/api"
)

// Where the parts of a slot end in its bytes; behind the number the digest stands.
const (
	counterEnd = 8
	numberEnd  = counterEnd + 4
)

// Encode is a slot's bytes.
func Encode(s api.Slot) string {
	b := make([]byte, 0, api.SlotBytes)
	b = laid(b, s.Counter, counterEnd)
	b = laid(b, uint64(s.Root.At), numberEnd)
	return string(append(b, s.Root.Sum[:]...))
}

// Decode is the slot of such bytes.
func Decode(s string) (api.Slot, api.Errno) {
	if len(s) != api.SlotBytes {
		return api.Slot{}, api.ErrSlot
	}
	var x api.Slot
	x.Counter = taken(s[:counterEnd])
	x.Root.At = uint32(taken(s[counterEnd:numberEnd]))
	copy(x.Root.Sum[:], s[numberEnd:])
	if x.Root.At == 0 && x != (api.Slot{}) {
		return api.Slot{}, api.ErrSlot
	}
	return x, api.OK
}

// laid is bytes with a number's behind them, up to an end.
func laid(b []byte, n uint64, end int) []byte {
	for len(b) < end {
		b = append(b, byte(n))
		n >>= 8
	}
	return b
}

// taken is the number of bytes.
func taken(s string) uint64 {
	var n uint64
	for i := range len(s) {
		n |= uint64(s[i]) << (8 * i)
	}
	return n
}

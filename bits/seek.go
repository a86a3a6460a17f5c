package bits

import (
	"signet/api"
	"signet/word"
)

// Count is how many bits are 1.
func (m *Map) Count() int {
	if m == nil {
		return 0
	}
	many := 0
	for _, w := range m.words {
		many += word.Ones(w)
	}
	return many
}

// Free is the least place from one on whose bit is 0.
func (m *Map) Free(from int) int {
	return m.seek(from, ^uint64(0))
}

// Next is the least place from one on whose bit is 1.
func (m *Map) Next(from int) int {
	return m.seek(from, 0)
}

// seek is the least place from one on whose bit is 1 once each word's bits are turned over where those of turn are 1, or -1.
func (m *Map) seek(from int, turn uint64) int {
	from = max(from, 0)
	if !m.inside(from) {
		return -1
	}
	at := from / wordBits
	ahead := one(from) - 1
	left := (m.words[at] ^ turn) &^ ahead
	for left == 0 {
		at++
		if at == len(m.words) {
			return -1
		}
		left = m.words[at] ^ turn
	}
	place := at*wordBits + word.Low(left)
	// What is behind the map's end is 0, and no place of it.
	if !m.inside(place) {
		return -1
	}
	return place
}

// All goes over the places of ones.
func (m *Map) All() func(yield func(int) bool) {
	return func(yield func(int) bool) {
		if yield == nil {
			return
		}
		for place := m.Next(0); place >= 0; place = m.Next(place + 1) {
			if !yield(place) {
				return
			}
		}
	}
}

// Runs is the longest stretches of ones.
func (m *Map) Runs() []api.Run {
	var l []api.Run
	for from := m.Next(0); from >= 0; {
		end := m.Free(from)
		if end < 0 {
			end = m.size
		}
		l = append(l, api.Run{From: from, To: end - 1})
		from = m.Next(end)
	}
	return l
}

package room

import (
	"signet/api"
	"signet/bits"
)

// State is the state of a block.
func (r *Room) State(at uint32) int {
	used, next := r.maps()
	if at == 0 || at >= uint32(r.Blocks()) {
		return api.RoomNone
	}
	was, will := used.Has(int(at)), next.Has(int(at))
	switch {
	case was && will:
		return api.RoomUsed
	case will:
		return api.RoomTaken
	case was:
		return api.RoomLet
	}
	return api.RoomFree
}

// in is the map of the blocks that have a state; nil, of what is no state.
func (r *Room) in(state int) *bits.Map {
	used, next := r.maps()
	var m *bits.Map
	switch state {
	case api.RoomNone:
		m, _ = bits.Of(r.Blocks(), 0)
	case api.RoomFree:
		kept, _ := used.Either(next)
		m, _ = r.numbers().Less(kept)
	case api.RoomUsed:
		m, _ = used.Cross(next)
	case api.RoomTaken:
		m, _ = next.Less(used)
	case api.RoomLet:
		m, _ = used.Less(next)
	}
	return m
}

// numbers is the map of all blocks that may be taken at some time.
func (r *Room) numbers() *bits.Map {
	m, _ := bits.New(r.Blocks())
	m.Fill(1, r.Blocks())
	return m
}

// Count is how many blocks have a state.
func (r *Room) Count(state int) int {
	return r.in(state).Count()
}

// List is the blocks that have a state.
func (r *Room) List(state int) []uint32 {
	var l []uint32
	for at := range r.in(state).All() {
		l = append(l, uint32(at))
	}
	return l
}

// Runs is the longest stretches of blocks of a state.
func (r *Room) Runs(state int) []api.Run {
	return r.in(state).Runs()
}

// Longest is the first block of the longest stretch of a state, and how long it is.
func (r *Room) Longest(state int) (uint32, int) {
	first, most := 0, 0
	for _, run := range r.Runs(state) {
		if long := run.To - run.From + 1; long > most {
			first, most = run.From, long
		}
	}
	return uint32(first), most
}

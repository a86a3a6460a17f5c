package slot

import (
	"slices"

	"signet/api"
)

// At is the slot that was written with a counter.
func (r *Register) At(counter uint64) (api.Slot, bool) {
	l := r.Between(counter, counter)
	if len(l) == 0 {
		return api.Slot{}, false
	}
	return l[0], true
}

// Between is the slots that were written with counters from one to another.
func (r *Register) Between(from, to uint64) []api.Slot {
	if r == nil {
		return nil
	}
	// Counters are 1, 2, 3 ..: one more than the place in the list.
	from, to = max(from, 1), min(to, uint64(len(r.written)))
	if from > to {
		return nil
	}
	return slices.Clone(r.written[from-1 : to])
}

// Age is how many slots were written behind one.
func (r *Register) Age(s api.Slot) (int, bool) {
	if !r.Was(s) {
		return 0, false
	}
	return len(r.written) - 1 - r.places[s], true
}

package room

import "signet/api"

// TakeMany takes so many blocks, or none.
func (r *Room) TakeMany(n int) ([]uint32, api.Errno) {
	if n < 0 {
		return nil, api.ErrArg
	}
	if r == nil || n > r.Count(api.RoomFree) {
		return nil, api.ErrNoSpace
	}
	l := make([]uint32, n)
	for i := range l {
		l[i], _ = r.Take()
	}
	return l, api.OK
}

// LetAll lets all these blocks go, or none.
func (r *Room) LetAll(l []uint32) (int, api.Errno) {
	// A copy tells ahead whether all of them can be.
	place, err := r.Copy().letEach(l)
	if err == api.OK {
		r.letEach(l)
	}
	return place, err
}

// letEach lets blocks go, one by one, up to the first that can't be: a block that stands ahead of it in the list was let go there, and can't be once more.
func (r *Room) letEach(l []uint32) (int, api.Errno) {
	for place, at := range l {
		if err := r.Let(at); err != api.OK {
			return place, err
		}
	}
	return 0, api.OK
}

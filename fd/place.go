package fd

import "signet/api"

// Where a place may be counted from.
const (
	fromStart = 0
	fromPlace = 1
	fromSize  = 2
)

// Move lays a descriptor's place.
func (f *Fds) Move(fd, at int) api.Errno {
	o := f.of(fd)
	if o == nil {
		return api.ErrFd
	}
	if !mayBe(at) {
		return api.ErrSeek
	}
	o.At = at
	return api.OK
}

// Seek lays a descriptor's place, counted from somewhere.
func (f *Fds) Seek(fd, by, whence, size int) (int, api.Errno) {
	o := f.of(fd)
	if o == nil {
		return 0, api.ErrFd
	}
	if !mayBe(size) {
		return 0, api.ErrArg
	}
	from := 0
	switch whence {
	case fromStart:
	case fromPlace:
		from = o.At
	case fromSize:
		from = size
	default:
		return 0, api.ErrArg
	}
	// The sum comes behind this: of a by that is far off it may be more than an int.
	if by < -from || by > api.MaxFile-from {
		return 0, api.ErrSeek
	}
	o.At = from + by
	return o.At, api.OK
}

// mayBe tells whether a place in a file, or its size, may be.
func mayBe(at int) bool {
	return at >= 0 && at <= api.MaxFile
}

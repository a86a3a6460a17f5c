package fd_test

import (
	"math"
	"testing"

	"signet/api"
	"signet/fd"
)

// 23.2

func TestMove(t *testing.T) {
	f, p := opened(t, 4)
	for _, at := range []int{0, 1, 255, 256, api.MaxFile - 1, api.MaxFile, 0} {
		for n := range 4 {
			moves(t, f, n, at)
			o := p[n]
			o.At = at
			p[n] = o
			holds(t, "behind Move", f, p)
		}
	}
}

// beyond is places and sizes that may not be.
func beyond() []int {
	return []int{-1, -2, api.MaxFile + 1, api.MaxFile + 2, -api.MaxFile, 1 << 32, -1 << 32, math.MinInt, math.MaxInt}
}

func TestMoveToNoPlace(t *testing.T) {
	f, p := opened(t, 4)
	for _, at := range beyond() {
		for n := range 4 {
			if err := f.Move(n, at); err != api.ErrSeek {
				t.Errorf("Move(%d, %d) = %d; want ErrSeek", n, at, err)
			}
			holds(t, "behind a wrong Move", f, p)
		}
	}
}

// 23.3

// at is descriptors of which the number 1 stands at a place.
func at(t *testing.T, place int) (*fd.Fds, plain) {
	t.Helper()
	f, p := opened(t, 3)
	moves(t, f, 1, place)
	p[1] = api.Open{Inode: p[1].Inode, Flags: p[1].Flags, At: place}
	return f, p
}

// sought asks for a Seek of the number 1 from a place on, and that nothing else changes.
func sought(t *testing.T, place, by, whence, size, want int, wantErr api.Errno) {
	t.Helper()
	f, p := at(t, place)
	if got, err := f.Seek(1, by, whence, size); got != want || err != wantErr {
		t.Errorf("from %d: Seek(%d, %d, %d) = %d, %d; want %d, %d", place, by, whence, size, got, err, want, wantErr)
	}
	if wantErr == api.OK {
		p[1] = api.Open{Inode: p[1].Inode, Flags: p[1].Flags, At: want}
	}
	holds(t, "behind Seek", f, p)
}

func TestSeek(t *testing.T) {
	// From 0 on: neither the place nor the size has a part.
	sought(t, 100, 7, 0, 50, 7, api.OK)
	sought(t, 100, 0, 0, 50, 0, api.OK)
	// From the place on.
	sought(t, 100, 7, 1, 50, 107, api.OK)
	sought(t, 100, -7, 1, 50, 93, api.OK)
	sought(t, 100, 0, 1, 50, 100, api.OK)
	// From the size on, beyond the end, too.
	sought(t, 100, 7, 2, 50, 57, api.OK)
	sought(t, 100, -7, 2, 50, 43, api.OK)
	sought(t, 100, 0, 2, 50, 50, api.OK)
}

// Sums of 0, MaxFile, and one beyond either end, from each beginning.
func TestSeekToBothEnds(t *testing.T) {
	const end = api.MaxFile
	for _, from := range []int{0, 1, 1000, end - 1, end} {
		for _, other := range []int{0, 33, end} {
			for whence, c := range []struct{ place, from, size int }{{other, 0, from}, {from, from, other}, {other, from, from}} {
				sought(t, c.place, -c.from, whence, c.size, 0, api.OK)
				sought(t, c.place, end-c.from, whence, c.size, end, api.OK)
				sought(t, c.place, -c.from-1, whence, c.size, 0, api.ErrSeek)
				sought(t, c.place, end-c.from+1, whence, c.size, 0, api.ErrSeek)
			}
		}
	}
}

// So far lies nothing, wherever it is counted from, also where the sum is more than an int.
func TestSeekByAnyInt(t *testing.T) {
	const end = api.MaxFile
	for _, by := range []int{
		math.MinInt, math.MinInt + 1, math.MinInt + end, math.MinInt32, -1 << 32, -end - 1,
		math.MaxInt, math.MaxInt - 1, math.MaxInt - end, math.MaxInt32, 1 << 32, end + 1,
	} {
		for whence := range 3 {
			for _, place := range []int{0, 1, 500, end} {
				for _, size := range []int{0, 1, 700, end} {
					sought(t, place, by, whence, size, 0, api.ErrSeek)
				}
			}
		}
	}
}

func TestSeekFromNowhere(t *testing.T) {
	for _, whence := range []int{-1, -2, 3, 4, 1 << 32, 1<<32 + 1, math.MinInt, math.MaxInt} {
		for _, by := range []int{0, 1, -1, math.MinInt, math.MaxInt} {
			for _, size := range []int{0, 5, api.MaxFile, -1, api.MaxFile + 1} {
				sought(t, 10, by, whence, size, 0, api.ErrArg)
			}
		}
	}
}

// A size that may not be is told whatever it is counted from, and ahead of a sum that may not be.
func TestSeekOfNoSize(t *testing.T) {
	for _, size := range beyond() {
		for whence := -1; whence <= 3; whence++ {
			for _, by := range []int{0, 1, -1, -size, math.MinInt, math.MaxInt} {
				sought(t, 10, by, whence, size, 0, api.ErrArg)
			}
		}
	}
}

func TestSeekOfSizesThatMayBe(t *testing.T) {
	for _, size := range []int{0, 1, api.MaxFile - 1, api.MaxFile} {
		sought(t, 10, 3, 0, size, 3, api.OK)
		sought(t, 10, 3, 1, size, 13, api.OK)
		sought(t, 10, 0, 2, size, size, api.OK)
	}
}

// Where a Seek has come to, the next one begins.
func TestSeekGoesOn(t *testing.T) {
	f, p := at(t, 0)
	place := 0
	for _, by := range []int{5, 10, -15, 0, api.MaxFile, -1, 1, -api.MaxFile} {
		place += by
		if got, err := f.Seek(1, by, 1, 0); got != place || err != api.OK {
			t.Errorf("Seek(%d) = %d, %d; want %d", by, got, err, place)
		}
		p[1] = api.Open{Inode: p[1].Inode, Flags: p[1].Flags, At: place}
		holds(t, "behind Seek", f, p)
	}
}

package fd_test

import (
	"math"
	"slices"
	"testing"

	"signet/api"
	"signet/fd"
)

// 23.1

// allFlags is all flags from -1 to 64, and some far beyond both ends, those whose lowest bits alone may be among them.
func allFlags() []int {
	var l []int
	for flags := -1; flags <= 64; flags++ {
		l = append(l, flags)
	}
	for _, low := range []int{0, 1, 2, 3, 63} {
		for _, high := range []int{64, 128, 1 << 16, 1 << 30, 1 << 31, 1 << 32, 1 << 62, -64, -128, -1 << 31, -1 << 32, math.MinInt} {
			l = append(l, high+low)
		}
	}
	return append(l, -2, -3, math.MinInt, math.MinInt+1, math.MaxInt, math.MaxInt-1, math.MaxInt32, math.MinInt32)
}

func TestCheck(t *testing.T) {
	for _, flags := range allFlags() {
		want := api.ErrFlags
		if slices.Contains(good, flags) {
			want = api.OK
		}
		if err := fd.Check(flags); err != want {
			t.Errorf("Check(%d) = %d; want %d", flags, err, want)
		}
	}
}

// The chapter's conditions, one by one.
func TestCheckOfEachCondition(t *testing.T) {
	const r, w, create, only, cut, app = api.FlagRead, api.FlagWrite, api.FlagCreate, api.FlagOnly, api.FlagCut, api.FlagAppend
	for _, flags := range []int{r, w, r + w, r + create, w + create, r + create + only, w + create + only, w + cut, w + app, r + w + cut, r + w + app,
		w + cut + app, w + create + cut, w + create + only + app, r + w + create + only + cut + app} {
		if err := fd.Check(flags); err != api.OK {
			t.Errorf("Check(%d) = %d", flags, err)
		}
	}
	for _, flags := range []int{
		0, create, only, cut, app, create + only, cut + app, create + only + cut + app, // neither to read nor to write
		r + only, w + only, r + w + only, w + only + cut, w + only + app, r + w + only + cut + app, // made by this alone, but not made
		r + cut, r + app, r + cut + app, r + create + cut, r + create + only + app, r + create + only + cut + app, // changed, but not to write
		r + only + cut,              // both
		64, 64 + r, 64 + w, 128 + r, // flags that there are not
	} {
		if err := fd.Check(flags); err != api.ErrFlags {
			t.Errorf("Check(%d) = %d; want ErrFlags", flags, err)
		}
	}
}

func TestReadsAndWrites(t *testing.T) {
	for _, flags := range allFlags() {
		may := slices.Contains(good, flags)
		if got, want := fd.Reads(flags), may && flags%2 == 1; got != want {
			t.Errorf("Reads(%d) = %v; want %v", flags, got, want)
		}
		if got, want := fd.Writes(flags), may && flags/2%2 == 1; got != want {
			t.Errorf("Writes(%d) = %v; want %v", flags, got, want)
		}
	}
	for _, c := range []struct {
		flags         int
		reads, writes bool
	}{
		{1, true, false}, {2, false, true}, {3, true, true}, {13, true, false}, {62, false, true}, {63, true, true},
		// They have a flag, but may not be.
		{9, false, false}, {10, false, false}, {11, false, false}, {17, false, false}, {33, false, false}, {65, false, false}, {66, false, false}, {-1, false, false},
	} {
		if fd.Reads(c.flags) != c.reads || fd.Writes(c.flags) != c.writes {
			t.Errorf("of %d: Reads = %v, Writes = %v; want %v, %v", c.flags, fd.Reads(c.flags), fd.Writes(c.flags), c.reads, c.writes)
		}
	}
}

package cache_test

import (
	"math"
	"slices"
	"testing"

	"signet/api"
	"signet/cache"
	"signet/disk"
)

// filled is a cache with entries of the blocks 1, 2 .. n, in that order, and their references.
func filled(t *testing.T, room, n int) (stand, []api.Ref) {
	t.Helper()
	s := made(t, room)
	var l []api.Ref
	for at := 1; at <= n; at++ {
		l = append(l, s.puts(uint32(at), full(at), wrote(full(at))))
	}
	return s, l
}

// of is the references with these numbers.
func of(numbers ...int) []api.Ref {
	var l []api.Ref
	for _, at := range numbers {
		l = append(l, ref(uint32(at), full(at)))
	}
	return l
}

// 8.4

// use is a letter's call on the block of a number.
func use(s stand, letter byte, at int) {
	r := ref(uint32(at), full(at))
	switch letter {
	case 'g':
		s.c.Get(r)
	case 'h':
		s.c.Has(r)
	case 'c':
		s.c.Check(r)
	case 'p':
		s.c.Put(uint32(at), full(at))
	}
}

// Each order of Get, Has, Check and Put: the first two that are not used lie first.
func TestWhichEntryGoes(t *testing.T) {
	for _, calls := range everyOrder("ghcp") {
		s, _ := filled(t, 4, 4)
		want := []int{1, 2, 3, 4}
		for n, letter := range []byte(calls) {
			at := n + 1
			use(s, letter, at)
			if letter == 'g' || letter == 'p' {
				want = append(slices.DeleteFunc(want, func(x int) bool { return x == at }), at)
			}
			s.has(of(want...)...)
		}
		for at := 5; at <= 8; at++ {
			s.puts(uint32(at), full(at), wrote(full(at)))
			want = append(want[1:], at)
			s.has(of(want...)...)
		}
	}
}

// everyOrder is all orders of a text's letters.
func everyOrder(letters string) []string {
	if letters == "" {
		return []string{""}
	}
	var l []string
	for n := range letters {
		for _, s := range everyOrder(letters[:n] + letters[n+1:]) {
			l = append(l, letters[n:n+1]+s)
		}
	}
	return l
}

// Each run of three calls on each of three entries, where one more is put in behind them.
func TestWhichEntryGoesBehindAnyCalls(t *testing.T) {
	for run := range 12 * 12 * 12 {
		s, _ := filled(t, 3, 3)
		want := []int{1, 2, 3}
		for rest, n := run, 0; n < 3; rest, n = rest/12, n+1 {
			letter, at := "ghcp"[rest%4], rest%12/4+1
			use(s, letter, at)
			if letter == 'g' || letter == 'p' {
				want = append(slices.DeleteFunc(want, func(x int) bool { return x == at }), at)
			}
		}
		s.has(of(want...)...)
		s.puts(9, full(9), wrote(full(9)))
		s.has(of(append(want[1:], 9)...)...)
	}
}

// A Get that reads raw puts in, and lets go, as a Put does.
func TestAGetThatReadsRawLetsGo(t *testing.T) {
	s, _ := filled(t, 3, 5)
	s.has(of(3, 4, 5)...)
	s.gets(of(1)[0], full(1), read())
	s.has(of(4, 5, 1)...)
	s.gets(of(4)[0], full(4), hit())
	s.has(of(5, 1, 4)...)
	s.gets(of(3)[0], full(3), read())
	s.has(of(1, 4, 3)...)
	s.fails(ref(5, full(1)), api.ErrTampered, bad())
	s.has(of(1, 4, 3)...)
	s.putFails(0, full(1), api.ErrArg, change{})
	s.has(of(1, 4, 3)...)
}

func TestHas(t *testing.T) {
	s, l := filled(t, 3, 2)
	for _, r := range l {
		if !s.c.Has(r) {
			t.Errorf("Has(%v) = false", r)
		}
	}
	not := []api.Ref{{}, {At: 1}, {Sum: l[0].Sum}, {At: 2, Sum: l[0].Sum}, {At: 1, Sum: l[1].Sum}, {At: 3, Sum: l[0].Sum}, {At: 3}, {At: 16, Sum: l[0].Sum}, {At: 1<<16 + 1, Sum: l[0].Sum}}
	for at := range 32 {
		r := l[0]
		r.Sum[at] ^= 128
		not = append(not, r)
	}
	s.does("Has", change{}, func() {
		for _, r := range not {
			if s.c.Has(r) {
				t.Errorf("Has(%v) = true", r)
			}
		}
	})
	s.has(l...)
	s.c.Get(api.Ref{})
	if s.c.Has(api.Ref{}) {
		t.Error("none is an entry")
	}
}

func TestForget(t *testing.T) {
	s, l := filled(t, 9, 4)
	twice := s.puts(2, full(20), wrote(full(20)))
	thrice := s.puts(2, full(21), wrote(full(21)))
	s.has(l[0], l[1], l[2], l[3], twice, thrice)
	for _, c := range []struct {
		at   uint32
		many int
		left []api.Ref
	}{
		{0, 0, []api.Ref{l[0], l[1], l[2], l[3], twice, thrice}},
		{5, 0, []api.Ref{l[0], l[1], l[2], l[3], twice, thrice}},
		{1<<16 + 2, 0, []api.Ref{l[0], l[1], l[2], l[3], twice, thrice}},
		{math.MaxUint32, 0, []api.Ref{l[0], l[1], l[2], l[3], twice, thrice}},
		{2, 3, []api.Ref{l[0], l[2], l[3]}},
		{2, 0, []api.Ref{l[0], l[2], l[3]}},
		{1, 1, []api.Ref{l[2], l[3]}},
		{4, 1, []api.Ref{l[2]}},
		{3, 1, nil},
		{3, 0, nil},
	} {
		s.does("Forget", change{}, func() {
			if got := s.c.Forget(c.at); got != c.many {
				t.Errorf("Forget(%d) = %d, want %d", c.at, got, c.many)
			}
		})
		s.has(c.left...)
	}
	for _, r := range append(l, twice, thrice) {
		if s.c.Has(r) {
			t.Errorf("Has(%v) = true behind Forget", r)
		}
	}
	// It is read raw again, and put in as the newest.
	s.gets(l[2], full(3), read())
	s.gets(l[0], full(1), read())
	s.has(l[2], l[0])
}

// Forget of several, some of them next to each other, at each end.
func TestForgetOfSeveral(t *testing.T) {
	for choice := range 64 {
		s := made(t, 6)
		var left []api.Ref
		many := 0
		for n := range 6 {
			at := uint32(1 + choice>>n&1)
			r := s.puts(at, full(n), wrote(full(n)))
			if at == 2 {
				many++
			} else {
				left = append(left, r)
			}
		}
		if got := s.c.Forget(2); got != many {
			t.Errorf("%b: Forget = %d, want %d", choice, got, many)
		}
		s.has(left...)
		// There is room again for those that are gone, and no more.
		for n := range many + 1 {
			left = append(left, s.puts(3, full(30+n), wrote(full(30+n))))
		}
		s.has(left[1:]...)
	}
}

func TestClear(t *testing.T) {
	for _, n := range []int{0, 1, 5} {
		s, l := filled(t, 3, n)
		s.does("Clear", change{}, s.c.Clear)
		s.has()
		for _, r := range l {
			if s.c.Has(r) {
				t.Errorf("Has(%v) = true behind Clear", r)
			}
		}
		if s.c.Room() != 3 || s.c.Disk() != s.d || s.c.Log() != s.l || s.c.Counts() != (api.Cached{Writes: n}) {
			t.Errorf("Clear left %d, %v", s.c.Room(), s.c.Counts())
		}
		s.does("Clear", change{}, s.c.Clear)
		for at, r := range l {
			s.gets(r, full(at+1), read())
		}
		s.has(l[max(0, n-3):]...)
	}
}

func TestTheListIsTheCallersOwn(t *testing.T) {
	s, l := filled(t, 4, 3)
	first, second := s.c.Entries(), s.c.Entries()
	for n := range first[:cap(first)] {
		first[:cap(first)][n] = api.Ref{At: 99}
	}
	first = append(first, api.Ref{At: 98})
	if !slices.Equal(second, l) {
		t.Errorf("two answers share memory: %v", second)
	}
	s.has(l...)
	held := slices.Clone(second)
	s.c.Get(l[0])
	s.c.Forget(2)
	if !slices.Equal(second, held) || len(first) != 4 {
		t.Errorf("an answer became %v", second)
	}
}

func TestCounts(t *testing.T) {
	s := made(t, 2)
	want := api.Cached{}
	count := func(what string, more api.Cached, do func()) {
		t.Helper()
		do()
		want = api.Cached{Hits: want.Hits + more.Hits, Reads: want.Reads + more.Reads, Bad: want.Bad + more.Bad, Writes: want.Writes + more.Writes}
		if got := s.c.Counts(); got != want {
			t.Errorf("behind %s: %v, want %v", what, got, want)
		}
	}
	r := ref(3, full(3))
	count("Put", api.Cached{Writes: 1}, func() { s.c.Put(3, full(3)) })
	count("Put at 0", api.Cached{}, func() { s.c.Put(0, full(3)) })
	count("Get of an entry", api.Cached{Hits: 1}, func() { s.c.Get(r) })
	count("Check of an entry", api.Cached{Reads: 1}, func() { s.c.Check(r) })
	count("Has", api.Cached{}, func() { s.c.Has(r) })
	count("Get of none", api.Cached{}, func() { s.c.Get(api.Ref{}) })
	count("Check of none", api.Cached{}, func() { s.c.Check(api.Ref{}) })
	count("Get of no block", api.Cached{}, func() { s.c.Get(api.Ref{At: 16}) })
	count("Check of no block", api.Cached{}, func() { s.c.Check(api.Ref{At: 16}) })
	count("Get of another digest", api.Cached{Reads: 1, Bad: 1}, func() { s.c.Get(ref(3, full(4))) })
	count("Check of another digest", api.Cached{Reads: 1, Bad: 1}, func() { s.c.Check(ref(3, full(4))) })
	count("Get raw", api.Cached{Reads: 1}, func() { s.c.Get(ref(5, api.Block{})) })
	count("GetAll", api.Cached{Hits: 2, Reads: 2, Bad: 1}, func() {
		s.c.GetAll([]api.Ref{r, {}, ref(6, api.Block{}), r, ref(6, full(1)), r})
	})
	count("Sweep", api.Cached{Reads: 2}, func() { s.c.Sweep() })
	count("raw steps of others", api.Cached{}, func() { s.d.Write(3, full(9)); s.d.Read(3) })
	count("Sweep", api.Cached{Reads: 2, Bad: 1}, func() { s.c.Sweep() })
	count("Entries", api.Cached{}, func() { s.c.Entries() })
	count("Forget", api.Cached{}, func() { s.c.Forget(6) })
	count("Clear", api.Cached{}, s.c.Clear)
	count("Shrink", api.Cached{}, func() { s.c.Shrink(1) })
	s.d.Cut(api.Cut{Event: s.d.Events(), After: true})
	count("Put, cut", api.Cached{}, func() { s.c.Put(3, full(3)) })
	count("Put without power", api.Cached{}, func() { s.c.Put(3, full(3)) })
	count("Get without power", api.Cached{}, func() { s.c.Get(r) })
	count("Check without power", api.Cached{}, func() { s.c.Check(r) })
}

func TestDiskAndLog(t *testing.T) {
	s := made(t, 1)
	s.c.Put(3, full(3))
	if s.c.Disk() != s.d || s.c.Log() != s.l {
		t.Error("another disk or log than those that it stands on")
	}
	d, _ := disk.New(16)
	other, _ := cache.New(d, nil, 1)
	if other.Disk() != d || other.Log() != nil {
		t.Error("another disk than the one that it stands on, or a log")
	}
}

// Two caches on one disk and one log have entries of their own.
func TestTwoOnOneDisk(t *testing.T) {
	s := made(t, 4)
	two, _ := cache.New(s.d, s.l, 4)
	other := stand{t, two, s.d, s.l}
	r := s.puts(3, full(3), wrote(full(3)))
	other.has()
	other.gets(r, full(3), read())
	other.puts(3, full(4), wrote(full(4)))
	s.has(r)
	s.gets(r, full(3), hit())
	s.checks(r, api.ErrTampered, bad())
}

// 8.7

func TestShrink(t *testing.T) {
	for _, c := range []struct {
		room int
		left []int
	}{
		{0, nil}, {1, []int{3}}, {2, []int{1, 3}}, {3, []int{4, 1, 3}}, {4, []int{2, 4, 1, 3}}, {5, []int{2, 4, 1, 3}}, {6, []int{2, 4, 1, 3}}, {4096, []int{2, 4, 1, 3}},
	} {
		s, l := filled(t, 5, 4)
		s.c.Get(l[0])
		s.c.Get(l[2])
		s.does("Shrink", change{}, func() {
			if err := s.c.Shrink(c.room); err != api.OK {
				t.Errorf("Shrink(%d) = %d", c.room, err)
			}
		})
		if s.c.Room() != c.room {
			t.Errorf("Room() = %d, want %d", s.c.Room(), c.room)
		}
		s.has(of(c.left...)...)
		for _, r := range l {
			if s.c.Has(r) != slices.Contains(s.c.Entries(), r) {
				t.Errorf("Has(%v) = %v behind Shrink(%d)", r, s.c.Has(r), c.room)
			}
		}
		// From then on there is just that room.
		for at := 5; at <= 15; at++ {
			s.puts(uint32(at), full(at), wrote(full(at)))
		}
		all := append(of(c.left...), of(5, 6, 7, 8, 9, 10, 11, 12, 13, 14, 15)...)
		s.has(all[max(0, len(all)-c.room):]...)
	}
}

func TestShrinkOfWrongRooms(t *testing.T) {
	s, l := filled(t, 3, 3)
	for _, room := range []int{-1, -3, -4096, 4097, 8192, 1 << 32, 1<<32 + 1, math.MaxInt, math.MinInt} {
		s.does("Shrink", change{}, func() {
			if err := s.c.Shrink(room); err != api.ErrArg {
				t.Errorf("Shrink(%d) = %d", room, err)
			}
		})
		if s.c.Room() != 3 {
			t.Errorf("Room() = %d behind Shrink(%d)", s.c.Room(), room)
		}
		s.has(l...)
	}
}

// A room that was less and is more again does not bring back what went.
func TestShrinkAndBack(t *testing.T) {
	s, l := filled(t, 3, 3)
	s.c.Shrink(1)
	s.c.Shrink(4)
	s.has(l[2])
	s.gets(l[0], full(1), read())
	s.gets(l[1], full(2), read())
	s.puts(4, full(4), wrote(full(4)))
	s.has(l[2], l[0], l[1], of(4)[0])
	s.puts(5, full(5), wrote(full(5)))
	s.has(append([]api.Ref{l[0], l[1]}, of(4, 5)...)...)
	s.c.Shrink(0)
	s.has()
	s.gets(l[0], full(1), read())
	s.has()
}

// The greatest room holds as many as it says, and not one more.
func TestTheGreatestRoom(t *testing.T) {
	d, _ := disk.New(api.MaxBlocks)
	c, _ := cache.New(d, nil, 4096)
	for at := 1; at <= 4096; at++ {
		c.Put(uint32(at), full(at))
	}
	if l := c.Entries(); len(l) != 4096 || l[0] != of(1)[0] || l[4095] != of(4096)[0] {
		t.Errorf("%d entries", len(l))
	}
	c.Get(of(1)[0])
	c.Put(4097, full(4097))
	l := c.Entries()
	if len(l) != 4096 || l[0] != of(3)[0] || l[4094] != of(1)[0] || l[4095] != of(4097)[0] || c.Has(of(2)[0]) {
		t.Errorf("%d entries", len(l))
	}
}

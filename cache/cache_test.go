package cache_test

import (
	"math"
	"slices"
	"testing"

	"signet/api"
	"signet/block"
	"signet/cache"
	"signet/digest"
	"signet/disk"
)

// stand is a cache, and what it stands on.
type stand struct {
	t *testing.T
	c *cache.Cache
	d *disk.Disk
	l *digest.Log
}

// made is a cache on a disk of 16 blocks of zeros.
func made(t *testing.T, room int) stand {
	t.Helper()
	d, err := disk.New(16)
	if err != api.OK {
		t.Fatal(err)
	}
	l := digest.NewLog()
	c, err := cache.New(d, l, room)
	if c == nil || err != api.OK {
		t.Fatalf("New with the room %d = %v, %d", room, c, err)
	}
	return stand{t, c, d, l}
}

// full is a block that is unlike that of any other number.
func full(n int) api.Block {
	return api.Block{0: byte(n), 7: byte(n >> 8), 255: 1}
}

// ref is the reference of a block that lies somewhere.
func ref(at uint32, b api.Block) api.Ref {
	return api.Ref{At: at, Sum: block.Sum(b)}
}

// change is what a call does beside its answer.
type change struct {
	ops    int         // raw steps
	logged []api.Block // what the log has more, in their order
	counts api.Cached  // by how much these are more
}

// Of the raw steps that are asked for most often.
func hit() change                 { return change{counts: api.Cached{Hits: 1}} }
func wrote(l ...api.Block) change { return change{1, l, api.Cached{Writes: 1}} }
func read(l ...api.Block) change  { return change{1, l, api.Cached{Reads: 1}} }
func bad(l ...api.Block) change   { return change{1, l, api.Cached{Reads: 1, Bad: 1}} }

// does asks what something changes.
func (s stand) does(what string, want change, do func()) {
	s.t.Helper()
	ops, entries, counts := s.d.Ops(), s.l.Len(), s.c.Counts()
	do()
	if got := s.d.Ops() - ops; got != want.ops {
		s.t.Errorf("%s: %d raw steps, want %d", what, got, want.ops)
	}
	var logged []api.Entry
	for n := entries; n < s.l.Len(); n++ {
		e, _ := s.l.At(n)
		logged = append(logged, e)
	}
	var texts []api.Entry
	for _, b := range want.logged {
		texts = append(texts, api.Entry{Tag: api.TagBlock, Text: string(b[:])})
	}
	if !slices.Equal(logged, texts) {
		s.t.Errorf("%s: the log has %q more, want %q", what, logged, texts)
	}
	now := s.c.Counts()
	got := api.Cached{Hits: now.Hits - counts.Hits, Reads: now.Reads - counts.Reads, Bad: now.Bad - counts.Bad, Writes: now.Writes - counts.Writes}
	if got != want.counts {
		s.t.Errorf("%s: the counts are %v more, want %v", what, got, want.counts)
	}
}

// gets asks that Get answers a block, and what else it does.
func (s stand) gets(r api.Ref, b api.Block, want change) {
	s.t.Helper()
	s.does("Get", want, func() {
		s.t.Helper()
		if got, err := s.c.Get(r); got != b || err != api.OK {
			s.t.Errorf("Get(%v) = %v, %d; want %v", r, got, err, b)
		}
	})
}

// fails asks that Get answers an error and zeros, leaves the entries, and what else it does.
func (s stand) fails(r api.Ref, e api.Errno, want change) {
	s.t.Helper()
	held := s.c.Entries()
	s.does("Get", want, func() {
		s.t.Helper()
		if got, err := s.c.Get(r); got != (api.Block{}) || err != e {
			s.t.Errorf("Get(%v) = %v, %d; want zeros, %d", r, got, err, e)
		}
	})
	s.has(held...)
}

// puts asks that Put answers the right reference, and what else it does.
func (s stand) puts(at uint32, b api.Block, want change) api.Ref {
	s.t.Helper()
	s.does("Put", want, func() {
		s.t.Helper()
		if r, err := s.c.Put(at, b); r != ref(at, b) || err != api.OK {
			s.t.Errorf("Put(%d, %v) = %v, %d", at, b, r, err)
		}
	})
	return ref(at, b)
}

// putFails asks that Put answers an error and none, leaves the entries, and what else it does.
func (s stand) putFails(at uint32, b api.Block, e api.Errno, want change) {
	s.t.Helper()
	held := s.c.Entries()
	s.does("Put", want, func() {
		s.t.Helper()
		if r, err := s.c.Put(at, b); r != (api.Ref{}) || err != e {
			s.t.Errorf("Put(%d, %v) = %v, %d; want none, %d", at, b, r, err, e)
		}
	})
	s.has(held...)
}

// checks asks what Check answers, that it leaves the entries, and what else it does.
func (s stand) checks(r api.Ref, e api.Errno, want change) {
	s.t.Helper()
	held := s.c.Entries()
	s.does("Check", want, func() {
		s.t.Helper()
		if err := s.c.Check(r); err != e {
			s.t.Errorf("Check(%v) = %d, want %d", r, err, e)
		}
	})
	s.has(held...)
}

// has asks for all entries in their order.
func (s stand) has(want ...api.Ref) {
	s.t.Helper()
	if got := s.c.Entries(); !slices.Equal(got, want) {
		s.t.Errorf("Entries() = %v, want %v", got, want)
	}
	for _, r := range want {
		if !s.c.Has(r) {
			s.t.Errorf("Has(%v) = false", r)
		}
	}
}

// lay lays a block behind the cache's back.
func (s stand) lay(at int, b api.Block) {
	s.t.Helper()
	if err := s.d.Write(at, b); err != api.OK {
		s.t.Fatal(err)
	}
}

// 8.1

func TestNew(t *testing.T) {
	for _, room := range []int{0, 1, 2, 4095, 4096} {
		s := made(t, room)
		s.has()
		if s.c.Room() != room || s.c.Counts() != (api.Cached{}) || s.c.Disk() != s.d || s.c.Log() != s.l {
			t.Errorf("New with the room %d: %d, %v", room, s.c.Room(), s.c.Counts())
		}
		if s.d.Ops() != 0 || s.d.Events() != 0 || s.l.Len() != 0 {
			t.Errorf("New made %d raw steps and digested %d texts", s.d.Ops(), s.l.Len())
		}
	}
}

func TestNewOfWrongArguments(t *testing.T) {
	d, _ := disk.New(16)
	for _, room := range []int{-1, -2, -4096, 4097, 8192, 1 << 32, math.MaxInt, math.MinInt} {
		for _, l := range []*digest.Log{nil, digest.NewLog()} {
			for _, k := range []*disk.Disk{nil, d} {
				if c, err := cache.New(k, l, room); c != nil || err != api.ErrArg {
					t.Errorf("New with the room %d = %v, %d", room, c, err)
				}
			}
		}
	}
	for _, room := range []int{0, 1, 4096} {
		if c, err := cache.New(nil, digest.NewLog(), room); c != nil || err != api.ErrArg {
			t.Errorf("New without a disk = %v, %d", c, err)
		}
	}
}

// A dead disk is a disk, too.
func TestNewOnADeadDisk(t *testing.T) {
	d, _ := disk.New(16)
	d.Cut(api.Cut{Event: 0})
	d.Event()
	if c, err := cache.New(d, nil, 3); c == nil || err != api.OK {
		t.Errorf("New = %v, %d", c, err)
	}
}

func TestANilLogKeepsNothing(t *testing.T) {
	d, _ := disk.New(16)
	c, err := cache.New(d, nil, 2)
	if err != api.OK || c.Log() != nil {
		t.Fatal(err, c.Log())
	}
	r, err := c.Put(5, full(5))
	if r != ref(5, full(5)) || err != api.OK {
		t.Errorf("Put = %v, %d", r, err)
	}
	c.Clear()
	if b, err := c.Get(r); b != full(5) || err != api.OK {
		t.Errorf("Get = %v, %d", b, err)
	}
	if err := c.Check(r); err != api.OK {
		t.Errorf("Check = %d", err)
	}
	d.Write(5, full(6))
	if err := c.Check(r); err != api.ErrTampered {
		t.Errorf("Check = %d", err)
	}
}

// 8.2

func TestGetOfNone(t *testing.T) {
	for _, room := range []int{0, 1, 4096} {
		s := made(t, room)
		s.gets(api.Ref{}, api.Block{}, change{})
		s.lay(0, full(9)) // what lies in block 0 is not asked
		s.gets(api.Ref{}, api.Block{}, change{})
		s.has()
		dies(s)
		s.gets(api.Ref{}, api.Block{}, change{})
	}
}

// dies cuts the power.
func dies(s stand) {
	s.d.Cut(api.Cut{Event: s.d.Events()})
	s.d.Event()
}

func TestGetOfANumberThatIsNone(t *testing.T) {
	for _, room := range []int{0, 1, 4096} {
		s := made(t, room)
		kept := s.puts(3, full(3), wrote(full(3)))
		zeros := block.Sum(api.Block{})
		for _, at := range []uint32{0, 16, 17, 255, 256, 1 << 16, 1<<16 + 3, 1 << 31, 1<<31 + 3, math.MaxUint32} {
			for _, x := range []api.Sum{zeros, kept.Sum, {31: 1}, {0: 1}} {
				s.fails(api.Ref{At: at, Sum: x}, api.ErrTampered, change{})
				s.checks(api.Ref{At: at, Sum: x}, api.ErrTampered, change{})
			}
		}
		for _, at := range []uint32{16, 17, math.MaxUint32} {
			s.fails(api.Ref{At: at}, api.ErrTampered, change{})
			s.checks(api.Ref{At: at}, api.ErrTampered, change{})
		}
		// The number is asked ahead of the power.
		dies(s)
		s.fails(api.Ref{At: 0, Sum: zeros}, api.ErrTampered, change{})
		s.fails(api.Ref{At: 16, Sum: zeros}, api.ErrTampered, change{})
		s.checks(api.Ref{At: 0, Sum: zeros}, api.ErrTampered, change{})
		s.checks(api.Ref{At: 16, Sum: zeros}, api.ErrTampered, change{})
	}
}

func TestGetReadsRawOnce(t *testing.T) {
	for _, at := range []uint32{1, 2, 14, 15} {
		s := made(t, 4)
		s.lay(int(at), full(7))
		r := ref(at, full(7))
		s.gets(r, full(7), read(full(7)))
		s.has(r)
		s.gets(r, full(7), hit())
		s.gets(r, full(7), hit())
		s.has(r)
	}
}

// The greatest disk has a last block, too.
func TestGetOfTheLastBlockOfAll(t *testing.T) {
	d, _ := disk.New(api.MaxBlocks)
	l := digest.NewLog()
	c, _ := cache.New(d, l, 1)
	s := stand{t, c, d, l}
	s.gets(ref(8191, api.Block{}), api.Block{}, read(api.Block{}))
	s.fails(ref(8192, api.Block{}), api.ErrTampered, change{})
	r := s.puts(8191, full(1), wrote(full(1)))
	s.gets(r, full(1), hit())
	s.putFails(8192, full(1), api.ErrArg, change{})
}

// A block of zeros has a digest, and is got as any other.
func TestGetOfZeros(t *testing.T) {
	s := made(t, 1)
	s.gets(ref(4, api.Block{}), api.Block{}, read(api.Block{}))
	s.has(ref(4, api.Block{}))
	s.fails(api.Ref{At: 4}, api.ErrTampered, bad()) // its digest is not zeros
}

func TestGetOfAnotherDigest(t *testing.T) {
	for _, room := range []int{0, 1, 4} {
		s := made(t, room)
		s.lay(3, full(3))
		r := ref(3, full(3))
		// Each byte of a digest is held against.
		logged := []api.Block{full(3)}
		for at := range 32 {
			x := r
			x.Sum[at] ^= 1 << (at % 8)
			s.fails(x, api.ErrTampered, bad(logged...))
			s.checks(x, api.ErrTampered, bad())
			logged = nil
			if s.c.Has(x) || s.c.Has(r) {
				t.Error("what is tampered was put in")
			}
		}
		// An entry of the same number is another one.
		s.c.Get(r)
		s.fails(ref(3, full(4)), api.ErrTampered, bad())
		s.fails(ref(4, full(3)), api.ErrTampered, bad(api.Block{}))
	}
}

func TestGetOfWhatWasWrittenOver(t *testing.T) {
	s := made(t, 2)
	r := s.puts(3, full(3), wrote(full(3)))
	s.lay(3, full(4))
	s.gets(r, full(3), hit()) // it is kept
	s.has(r)
	s.c.Clear()
	s.fails(r, api.ErrTampered, bad(full(4)))
	s.has()
	s.fails(r, api.ErrTampered, bad())
	s.gets(ref(3, full(4)), full(4), read())
	s.lay(3, full(3))
	s.gets(r, full(3), read())
	s.has(ref(3, full(4)), r)
}

// Any one bit that is turned over tells itself.
func TestGetOfEachBitSpoilt(t *testing.T) {
	s := made(t, 0)
	r := s.puts(3, full(3), wrote(full(3)))
	for bit := 0; bit < 8*256; bit += 5 {
		b := full(3)
		b[bit/8] ^= 1 << (bit % 8)
		s.lay(3, b)
		s.fails(r, api.ErrTampered, bad(b))
	}
	s.lay(3, full(3))
	s.gets(r, full(3), read())
}

// The adversary's step ahead of the raw read of a Get strikes that Get.
func TestGetBehindAnAdversary(t *testing.T) {
	s := made(t, 2)
	r := s.puts(3, full(3), wrote(full(3)))
	s.c.Clear()
	s.d.Plan([]api.Step{{Op: 1, Kind: api.StepBack, At: 3, Back: 0}})
	s.fails(r, api.ErrTampered, bad(api.Block{}))
	s.has()
}

func TestGetWithoutPower(t *testing.T) {
	s := made(t, 4)
	r := s.puts(3, full(3), wrote(full(3)))
	s.lay(4, full(4))
	dies(s)
	s.gets(r, full(3), hit()) // without a raw step
	s.fails(ref(4, full(4)), api.ErrCut, change{})
	s.fails(ref(4, full(5)), api.ErrCut, change{})
	s.checks(r, api.ErrCut, change{})
	s.has(r)
	s.d.Revive()
	s.gets(ref(4, full(4)), full(4), read(full(4)))
	s.checks(r, api.OK, read())
	s.has(r, ref(4, full(4)))
}

func TestGetWithoutRoom(t *testing.T) {
	s := made(t, 0)
	r := s.puts(3, full(3), wrote(full(3)))
	s.has()
	for range 3 {
		s.gets(r, full(3), read())
		s.has()
		if s.c.Has(r) {
			t.Error("Has is true without room")
		}
	}
	s.lay(3, full(4))
	s.fails(r, api.ErrTampered, bad(full(4)))
}

// 8.3

func TestPut(t *testing.T) {
	for _, at := range []uint32{1, 2, 14, 15} {
		for _, b := range []api.Block{full(1), {}} {
			s := made(t, 3)
			r := s.puts(at, b, wrote(b))
			s.has(r)
			for n, got := range s.d.Image() {
				want := api.Block{}
				if n == int(at) {
					want = b
				}
				if got != want {
					t.Errorf("Put at %d: block %d is %v", at, n, got)
				}
			}
			if s.d.Events() != 1 || s.d.Wear()[at] != 1 {
				t.Errorf("Put at %d made %d events", at, s.d.Events())
			}
			s.gets(r, b, hit())
		}
	}
}

func TestPutAtANumberThatIsNone(t *testing.T) {
	for _, room := range []int{0, 1, 4} {
		s := made(t, room)
		s.puts(3, full(3), wrote(full(3)))
		held := s.d.Image()
		for _, at := range []uint32{0, 16, 17, 256, 1<<16 + 3, 1 << 31, 1<<31 + 3, math.MaxUint32} {
			s.putFails(at, full(8), api.ErrArg, change{})
		}
		dies(s)
		for _, at := range []uint32{0, 16, math.MaxUint32} {
			s.putFails(at, full(8), api.ErrArg, change{}) // ahead of the power
		}
		if !slices.Equal(s.d.Image(), held) {
			t.Error("a Put that answered ErrArg wrote")
		}
	}
}

func TestPutTwiceAtOnePlace(t *testing.T) {
	s := made(t, 4)
	r := s.puts(3, full(3), wrote(full(3)))
	other := s.puts(3, full(4), wrote(full(4)))
	// Each is got by its own reference as long as it is kept.
	s.has(r, other)
	s.gets(other, full(4), hit())
	s.gets(r, full(3), hit())
	s.checks(r, api.ErrTampered, bad())
	s.checks(other, api.OK, read())
	s.c.Clear()
	s.fails(r, api.ErrTampered, bad())
	s.gets(other, full(4), read())
}

// A Put of what is there is a raw write all the same, and its entry is used.
func TestPutOfTheSame(t *testing.T) {
	s := made(t, 2)
	r := s.puts(3, full(3), wrote(full(3)))
	other := s.puts(4, full(3), wrote())
	s.has(r, other)
	s.puts(3, full(3), wrote())
	s.has(other, r)
	s.puts(3, full(3), wrote())
	s.has(other, r)
	s.gets(r, full(3), hit())
	s.gets(other, full(3), hit())
	if s.d.Wear()[3] != 3 {
		t.Errorf("block 3 was written %d times", s.d.Wear()[3])
	}
}

func TestPutWithoutPower(t *testing.T) {
	s := made(t, 4)
	r := s.puts(3, full(3), wrote(full(3)))
	dies(s)
	s.putFails(4, full(4), api.ErrCut, change{logged: []api.Block{full(4)}})
	s.putFails(3, full(3), api.ErrCut, change{})
	s.has(r)
	if s.d.Image()[4] != (api.Block{}) {
		t.Error("a Put without power wrote")
	}
	s.d.Revive()
	s.fails(ref(4, full(4)), api.ErrTampered, bad(api.Block{}))
}

func TestPutWhereThePowerIsCut(t *testing.T) {
	for _, after := range []bool{false, true} {
		for _, room := range []int{0, 1, 4} {
			s := made(t, room)
			r := s.puts(3, full(3), wrote(full(3)))
			s.d.Cut(api.Cut{Event: 1, After: after})
			s.putFails(4, full(4), api.ErrCut, change{ops: 1, logged: []api.Block{full(4)}})
			if s.c.Has(ref(4, full(4))) {
				t.Errorf("a cut (after: %v) left an entry", after)
			}
			s.fails(ref(4, full(4)), api.ErrCut, change{})
			s.d.Revive()
			if after {
				s.gets(ref(4, full(4)), full(4), read())
			} else {
				s.fails(ref(4, full(4)), api.ErrTampered, bad(api.Block{}))
			}
			if room > 1 && !s.c.Has(r) {
				t.Errorf("a cut (after: %v) took an entry out", after)
			}
		}
	}
}

// A Put where an entry of that reference is, and where the power is cut, leaves that entry in its place.
func TestPutOfAnEntryWhereThePowerIsCut(t *testing.T) {
	for _, after := range []bool{false, true} {
		s := made(t, 2)
		r := s.puts(3, full(3), wrote(full(3)))
		other := s.puts(4, full(4), wrote(full(4)))
		s.d.Cut(api.Cut{Event: 2, After: after})
		s.putFails(3, full(3), api.ErrCut, change{ops: 1})
		s.has(r, other)
		s.gets(r, full(3), hit())
	}
}

func TestCheck(t *testing.T) {
	for _, room := range []int{0, 1, 4} {
		s := made(t, room)
		s.checks(api.Ref{}, api.OK, change{})
		s.lay(15, full(3))
		s.checks(ref(15, full(3)), api.OK, read(full(3))) // not read yet
		s.checks(ref(15, full(3)), api.OK, read())
		s.has()
		r := s.puts(3, full(4), wrote(full(4)))
		s.checks(r, api.OK, read())
		s.lay(3, full(5))
		s.checks(r, api.ErrTampered, bad(full(5)))
		s.checks(r, api.ErrTampered, bad())
		s.checks(ref(3, full(5)), api.OK, read())
		if s.c.Has(ref(3, full(5))) || s.c.Has(ref(15, full(3))) {
			t.Error("Check put an entry in")
		}
		if s.c.Has(r) != (room > 0) {
			t.Error("Check took an entry out, or put one in")
		}
		dies(s)
		s.checks(api.Ref{}, api.OK, change{})
		s.checks(r, api.ErrCut, change{})
	}
}

// 8.5, and of 8.7 what a nil Cache does

func TestNil(t *testing.T) {
	var c *cache.Cache
	for _, r := range []api.Ref{{At: 1}, {At: 0, Sum: api.Sum{1}}, ref(3, full(3)), {At: math.MaxUint32}} {
		if b, err := c.Get(r); b != (api.Block{}) || err != api.ErrCut {
			t.Errorf("Get(%v) = %v, %d", r, b, err)
		}
		if err := c.Check(r); err != api.ErrCut {
			t.Errorf("Check(%v) = %d", r, err)
		}
		if c.Has(r) {
			t.Errorf("Has(%v) = true", r)
		}
	}
	if b, err := c.Get(api.Ref{}); b != (api.Block{}) || err != api.OK {
		t.Errorf("Get of none = %v, %d", b, err)
	}
	if err := c.Check(api.Ref{}); err != api.OK || c.Has(api.Ref{}) {
		t.Errorf("Check of none = %d", err)
	}
	for _, at := range []uint32{0, 1, 15, 16, math.MaxUint32} {
		if r, err := c.Put(at, full(1)); r != (api.Ref{}) || err != api.ErrCut {
			t.Errorf("Put at %d = %v, %d", at, r, err)
		}
		if n := c.Forget(at); n != 0 {
			t.Errorf("Forget(%d) = %d", at, n)
		}
	}
	c.Clear()
	if l := c.Entries(); len(l) != 0 {
		t.Errorf("Entries() = %v", l)
	}
	if c.Counts() != (api.Cached{}) || c.Disk() != nil || c.Log() != nil || c.Room() != 0 {
		t.Error(c.Counts(), c.Disk(), c.Log(), c.Room())
	}
	for _, room := range []int{-1, 0, 1, 4096, 4097} {
		if err := c.Shrink(room); err != api.ErrArg {
			t.Errorf("Shrink(%d) = %d", room, err)
		}
	}
	if l, err := c.Sweep(); len(l) != 0 || err != api.ErrCut {
		t.Errorf("Sweep() = %v, %d", l, err)
	}
}

func TestGetAllOfNil(t *testing.T) {
	var c *cache.Cache
	for _, l := range [][]api.Ref{nil, {}, {{}}, {{}, {}, {}}} {
		b, place, err := c.GetAll(l)
		if !slices.Equal(b, make([]api.Block, len(l))) || place != 0 || err != api.OK {
			t.Errorf("GetAll(%v) = %v, %d, %d", l, b, place, err)
		}
	}
	for first := range 4 {
		l := make([]api.Ref, 4)
		for n := first; n < 4; n++ {
			l[n] = ref(3, full(n))
		}
		if b, place, err := c.GetAll(l); len(b) != 0 || place != first || err != api.ErrCut {
			t.Errorf("GetAll(%v) = %v, %d, %d", l, b, place, err)
		}
	}
}

// A Cache that no call gave has no disk; it does nothing, and does not panic.
func TestTheZeroCache(t *testing.T) {
	c := &cache.Cache{}
	if b, err := c.Get(ref(3, full(3))); b != (api.Block{}) || err != api.ErrTampered {
		t.Errorf("Get = %v, %d", b, err)
	}
	if r, err := c.Put(3, full(3)); r != (api.Ref{}) || err != api.ErrArg {
		t.Errorf("Put = %v, %d", r, err)
	}
	if err := c.Shrink(3); err != api.OK {
		t.Errorf("Shrink = %d", err)
	}
	if l, err := c.Sweep(); len(l) != 0 || err != api.OK || len(c.Entries()) != 0 || c.Forget(3) != 0 || c.Has(ref(3, full(3))) {
		t.Errorf("Sweep = %v, %d", l, err)
	}
	c.Clear()
}

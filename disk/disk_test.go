package disk_test

import (
	"math"
	"slices"
	"testing"

	"signet/api"
	"signet/disk"
)

// made is a disk of so many blocks.
func made(t *testing.T, blocks int) *disk.Disk {
	t.Helper()
	d, err := disk.New(blocks)
	if d == nil || err != api.OK {
		t.Fatalf("New(%d) = %v, %d", blocks, d, err)
	}
	return d
}

// filled is a block with one byte at each place.
func filled(b byte) api.Block {
	var x api.Block
	for i := range x {
		x[i] = b
	}
	return x
}

// reads asks for a block, and that it is read so.
func reads(t *testing.T, d *disk.Disk, at int, want api.Block) {
	t.Helper()
	if b, err := d.Read(at); b != want || err != api.OK {
		t.Errorf("Read(%d) = %v, %d; want %v", at, b, err, want)
	}
}

// writes writes a block, and asks for the answer.
func writes(t *testing.T, d *disk.Disk, at int, b api.Block, want api.Errno) {
	t.Helper()
	if err := d.Write(at, b); err != want {
		t.Errorf("Write(%d) = %d, want %d", at, err, want)
	}
}

// counts asks for the numbers of raw steps and events.
func counts(t *testing.T, d *disk.Disk, ops, events int) {
	t.Helper()
	if d.Ops() != ops || d.Events() != events {
		t.Errorf("%d raw steps, %d events; want %d, %d", d.Ops(), d.Events(), ops, events)
	}
}

// killed is a disk of 16 blocks on which the power failed ahead of its first event, a Write to block 1.
func killed(t *testing.T) *disk.Disk {
	t.Helper()
	d := made(t, 16)
	d.Cut(api.Cut{Event: 0})
	writes(t, d, 1, filled(7), api.ErrCut)
	if !d.Dead() {
		t.Fatal("a disk that was cut is alive")
	}
	return d
}

// 5.1

func TestNew(t *testing.T) {
	for _, blocks := range []int{16, 17, 100, 8191, 8192} {
		d := made(t, blocks)
		if d.Blocks() != blocks || d.Dead() {
			t.Errorf("New(%d): %d blocks, dead: %v", blocks, d.Blocks(), d.Dead())
		}
		counts(t, d, 0, 0)
		l := d.Image()
		if len(l) != blocks || len(d.Wear()) != blocks || len(d.Log()) != 0 {
			t.Errorf("New(%d): %d in the image, %d worn, %d logged", blocks, len(l), len(d.Wear()), len(d.Log()))
		}
		for at, b := range l {
			if b != (api.Block{}) || d.Wear()[0] != 0 {
				t.Errorf("block %d of %d is not zero", at, blocks)
			}
		}
	}
	for _, blocks := range []int{15, 8193, 0, 1, -1, -16, math.MinInt, math.MaxInt} {
		if d, err := disk.New(blocks); d != nil || err != api.ErrArg {
			t.Errorf("New(%d) = %v, %d", blocks, d, err)
		}
	}
}

func TestReadAndWrite(t *testing.T) {
	for _, blocks := range []int{16, 33, 8192} {
		d := made(t, blocks)
		last := blocks - 1
		for n, at := range []int{0, 1, last} {
			reads(t, d, at, api.Block{})
			writes(t, d, at, filled(byte(n+1)), api.OK)
			reads(t, d, at, filled(byte(n+1)))
		}
		reads(t, d, 0, filled(1))
		reads(t, d, 2, api.Block{})
		reads(t, d, last-1, api.Block{})
		reads(t, d, last, filled(3))
		writes(t, d, last, filled(4), api.OK)
		reads(t, d, last, filled(4))
		writes(t, d, last, api.Block{}, api.OK)
		reads(t, d, last, api.Block{})
		counts(t, d, 17, 5)
	}
}

// places is places of which no disk of 16 blocks has one.
func places() []int {
	return []int{-1, 16, 17, 8192, -16, math.MinInt, math.MaxInt}
}

// No raw step, no event; what the plan has ahead of the next raw step waits for it.
func TestReadAndWriteOfNoBlock(t *testing.T) {
	d := made(t, 16)
	reads(t, d, 3, api.Block{})
	d.Plan([]api.Step{{Op: 1, Kind: api.StepBlock, At: 3, Data: filled(9)}})
	d.Cut(api.Cut{Event: 0})
	for _, at := range places() {
		if b, err := d.Read(at); b != (api.Block{}) || err != api.ErrArg {
			t.Errorf("Read(%d) = %v, %d", at, b, err)
		}
		writes(t, d, at, filled(1), api.ErrArg)
	}
	counts(t, d, 1, 0)
	if d.Dead() || len(d.Log()) != 1 || !slices.Equal(d.Image(), make([]api.Block, 16)) || !slices.Equal(d.Wear(), make([]int, 16)) {
		t.Error("a read or a write of no block did something")
	}
	reads(t, d, 3, filled(9))
	writes(t, d, 3, filled(1), api.ErrCut)
	counts(t, d, 3, 1)
}

// ErrCut stands ahead of ErrArg, and nothing is done.
func TestADeadDisk(t *testing.T) {
	d := killed(t)
	d.Plan([]api.Step{{Op: 1, Kind: api.StepBlock, At: 3, Data: filled(9)}})
	for _, at := range append(places(), 0, 1, 15) {
		if b, err := d.Read(at); b != (api.Block{}) || err != api.ErrCut {
			t.Errorf("Read(%d) = %v, %d", at, b, err)
		}
		writes(t, d, at, filled(1), api.ErrCut)
	}
	if err := d.Barrier(); err != api.ErrCut {
		t.Errorf("Barrier() = %d", err)
	}
	if takes, err := d.Event(); takes || err != api.ErrCut {
		t.Errorf("Event() = %v, %d", takes, err)
	}
	counts(t, d, 1, 1)
	if !d.Dead() || len(d.Log()) != 0 || !slices.Equal(d.Image(), make([]api.Block, 16)) || !slices.Equal(d.Wear(), make([]int, 16)) {
		t.Error("a dead disk did something")
	}
	d.Revive()
	reads(t, d, 3, filled(9))
}

// What tells of a disk does so of a dead one, too.
func TestWhatADeadDiskTells(t *testing.T) {
	d := made(t, 16)
	writes(t, d, 2, filled(2), api.OK)
	d.Cut(api.Cut{Event: 1, After: true})
	writes(t, d, 3, filled(3), api.ErrCut)
	if d.Blocks() != 16 || len(d.Log()) != 2 || d.Wear()[3] != 1 {
		t.Errorf("%d blocks, %d logged", d.Blocks(), len(d.Log()))
	}
	if l, is := d.At(1); !is || l[2] != filled(2) || l[3] != (api.Block{}) {
		t.Errorf("At(1) = %v, %v", l, is)
	}
	if l, is := d.Since(1); !is || !slices.Equal(l, []int{3}) {
		t.Errorf("Since(1) = %v, %v", l, is)
	}
	image := d.Image()
	image[7] = filled(7)
	if err := d.Load(image); err != api.OK || !d.Dead() {
		t.Errorf("Load = %d, dead: %v", err, d.Dead())
	}
	d.Revive()
	reads(t, d, 7, filled(7))
}

func TestBarrier(t *testing.T) {
	d := made(t, 16)
	for range 3 {
		if err := d.Barrier(); err != api.OK {
			t.Errorf("Barrier() = %d", err)
		}
	}
	counts(t, d, 0, 0)
	if l := d.Log(); len(l) != 3 || l[2] != (api.Raw{Kind: api.RawBarrier}) {
		t.Errorf("Log() = %v", l)
	}
}

// 5.3

func TestLog(t *testing.T) {
	d := made(t, 16)
	d.Plan([]api.Step{{Op: 2, Kind: api.StepBlock, At: 3, Data: filled(9)}})
	d.Cut(api.Cut{Event: 2})
	d.Cut(api.Cut{Event: 3, After: true})
	d.Cut(api.Cut{Event: 4})
	d.Cut(api.Cut{Event: 5, After: true})
	reads(t, d, 3, api.Block{})
	writes(t, d, 3, filled(1), api.OK)
	reads(t, d, 3, filled(9))
	d.Event()
	d.Barrier()
	d.Read(16)
	d.Write(-1, filled(2))
	d.Write(15, filled(3)) // event 2 does not take place
	d.Barrier()
	d.Read(15)
	d.Revive()
	d.Write(15, filled(4)) // event 3 does
	d.Revive()
	d.Event() // event 4 does not
	d.Event() // nor is this one
	d.Revive()
	d.Event() // event 5 does
	d.Revive()
	d.Load(make([]api.Block, 16))
	reads(t, d, 15, api.Block{})
	want := []api.Raw{
		{Kind: 1, At: 3}, {Kind: 2, At: 3, Data: filled(1)}, {Kind: 1, At: 3, Data: filled(9)},
		{Kind: 4}, {Kind: 3}, {Kind: 2, At: 15, Data: filled(4)}, {Kind: 4}, {Kind: 1, At: 15},
	}
	if got := d.Log(); !slices.Equal(got, want) {
		t.Errorf("Log() = %v, want %v", got, want)
	}
	counts(t, d, 6, 6)
}

func TestImageAndLoad(t *testing.T) {
	d := made(t, 16)
	writes(t, d, 3, filled(3), api.OK)
	writes(t, d, 15, filled(5), api.OK)
	want := make([]api.Block, 16)
	want[3], want[15] = filled(3), filled(5)
	if got := d.Image(); !slices.Equal(got, want) {
		t.Errorf("Image() = %v", got)
	}
	for at := range want {
		want[at] = filled(byte(100 + at))
	}
	if err := d.Load(want); err != api.OK {
		t.Errorf("Load = %d", err)
	}
	if got := d.Image(); !slices.Equal(got, want) {
		t.Errorf("Image() = %v", got)
	}
	counts(t, d, 2, 2)
	if len(d.Log()) != 2 || d.Wear()[3] != 1 || d.Wear()[4] != 0 {
		t.Error("Load is logged, or wears")
	}
	reads(t, d, 0, filled(100))
	reads(t, d, 15, filled(115))
}

func TestLoadOfTooFewAndTooMany(t *testing.T) {
	d := made(t, 17)
	writes(t, d, 3, filled(3), api.OK)
	before := d.Image()
	for _, many := range []int{0, 1, 15, 16, 18, 34, 8192} {
		if err := d.Load(slices.Repeat([]api.Block{filled(9)}, many)); err != api.ErrArg {
			t.Errorf("Load of %d blocks = %d", many, err)
		}
	}
	if err := d.Load(nil); err != api.ErrArg {
		t.Errorf("Load(nil) = %d", err)
	}
	if !slices.Equal(d.Image(), before) {
		t.Error("a Load that told an error changed the disk")
	}
	if err := d.Load(slices.Repeat([]api.Block{filled(9)}, 17)); err != api.OK || d.Image()[16] != filled(9) {
		t.Errorf("Load of 17 blocks = %d", err)
	}
}

// What blocks were at earlier steps stays; from the next step on it is what was loaded.
func TestAtBehindLoad(t *testing.T) {
	d := made(t, 16)
	writes(t, d, 3, filled(1), api.OK)
	reads(t, d, 3, filled(1))
	image := d.Image()
	image[3], image[4] = filled(2), filled(4)
	d.Load(image)
	for k, want := range [][2]api.Block{{}, {filled(1)}} {
		if l, is := d.At(k); !is || l[3] != want[0] || l[4] != want[1] {
			t.Errorf("At(%d) = %v, %v", k, l, is)
		}
	}
	if l, is := d.At(2); l != nil || is {
		t.Errorf("At(2) = %v, %v", l, is)
	}
	reads(t, d, 3, filled(2))
	if l, is := d.At(2); !is || !slices.Equal(l, image) {
		t.Errorf("At(2) = %v, %v", l, is)
	}
	// Of two images that are loaded between the same steps the second one stands, and what the adversary does then.
	second := slices.Repeat([]api.Block{filled(8)}, 16)
	d.Load(image)
	d.Load(make([]api.Block, 16))
	d.Load(second)
	d.Plan([]api.Step{{Op: 3, Kind: api.StepBlock, At: 5, Data: filled(5)}})
	reads(t, d, 5, filled(5))
	second[5] = filled(5)
	if l, is := d.At(3); !is || !slices.Equal(l, second) {
		t.Errorf("At(3) = %v, %v", l, is)
	}
}

func TestAt(t *testing.T) {
	d := made(t, 16)
	for _, k := range []int{-1, 0, 1} {
		if l, is := d.At(k); l != nil || is {
			t.Errorf("At(%d) of a new disk = %v, %v", k, l, is)
		}
	}
	d.Plan([]api.Step{{Op: 2, Kind: api.StepBlock, At: 9, Data: filled(9)}})
	writes(t, d, 3, filled(1), api.OK)
	writes(t, d, 3, filled(2), api.OK)
	writes(t, d, 0, filled(3), api.OK)
	reads(t, d, 3, filled(2))
	for k, want := range []map[int]api.Block{
		{},
		{3: filled(1)},
		{3: filled(2), 9: filled(9)},
		{3: filled(2), 9: filled(9), 0: filled(3)},
	} {
		l, is := d.At(k)
		if !is || len(l) != 16 {
			t.Fatalf("At(%d) = %v, %v", k, l, is)
		}
		for at, b := range l {
			if b != want[at] {
				t.Errorf("At(%d): block %d is %v, want %v", k, at, b, want[at])
			}
		}
	}
	for _, k := range []int{-1, 4, 5, math.MinInt, math.MaxInt} {
		if l, is := d.At(k); l != nil || is {
			t.Errorf("At(%d) = %v, %v", k, l, is)
		}
	}
}

// What is written at the last raw step is not what the block was at it.
func TestAtOfTheLastStep(t *testing.T) {
	d := made(t, 16)
	writes(t, d, 3, filled(1), api.OK)
	if l, is := d.At(0); !is || l[3] != (api.Block{}) {
		t.Errorf("At(0) = %v, %v", l, is)
	}
	if l, is := d.At(1); l != nil || is {
		t.Errorf("At(1) = %v, %v", l, is)
	}
}

// 5.6

func TestWear(t *testing.T) {
	d := made(t, 16)
	d.Plan([]api.Step{{Op: 1, Kind: api.StepBlock, At: 5, Data: filled(9)}, {Op: 2, Kind: api.StepAll, Back: 0}})
	d.Cut(api.Cut{Event: 3})
	d.Cut(api.Cut{Event: 4, After: true})
	writes(t, d, 3, filled(1), api.OK)
	writes(t, d, 3, filled(1), api.OK) // the same bytes again
	writes(t, d, 0, filled(2), api.OK)
	writes(t, d, 4, filled(3), api.ErrCut) // does not take place
	writes(t, d, 4, filled(3), api.ErrCut) // dead
	d.Revive()
	writes(t, d, 6, filled(4), api.ErrCut) // takes place
	d.Revive()
	writes(t, d, 16, filled(5), api.ErrArg)
	writes(t, d, 15, api.Block{}, api.OK) // zeros over zeros
	d.Event()
	d.Read(7)
	d.Load(slices.Repeat([]api.Block{filled(8)}, 16))
	want := make([]int, 16)
	want[0], want[3], want[6], want[15] = 1, 2, 1, 1
	if got := d.Wear(); !slices.Equal(got, want) {
		t.Errorf("Wear() = %v, want %v", got, want)
	}
}

func TestSince(t *testing.T) {
	d := made(t, 16)
	for _, k := range []int{-1, 0, 1} {
		if l, is := d.Since(k); l != nil || is {
			t.Errorf("Since(%d) of a new disk = %v, %v", k, l, is)
		}
	}
	d.Plan([]api.Step{{Op: 1, Kind: api.StepBlock, At: 15, Data: filled(9)}})
	writes(t, d, 3, filled(1), api.OK) // step 0
	writes(t, d, 0, filled(2), api.OK)
	writes(t, d, 3, api.Block{}, api.OK)
	writes(t, d, 7, filled(4), api.OK)
	writes(t, d, 1, api.Block{}, api.OK)
	for k, want := range [][]int{{0, 7, 15}, {0, 3, 7}, {3, 7}, {7}, {}} {
		if l, is := d.Since(k); !is || !slices.Equal(l, want) {
			t.Errorf("Since(%d) = %v, %v; want %v", k, l, is, want)
		}
	}
	for _, k := range []int{-1, 5, 6, math.MinInt, math.MaxInt} {
		if l, is := d.Since(k); l != nil || is {
			t.Errorf("Since(%d) = %v, %v", k, l, is)
		}
	}
	d.Load(slices.Repeat([]api.Block{filled(5)}, 16))
	if l, is := d.Since(4); !is || len(l) != 16 || l[0] != 0 || l[15] != 15 {
		t.Errorf("Since(4) behind Load = %v, %v", l, is)
	}
	now, _ := d.At(4)
	d.Load(now)
	if l, is := d.Since(4); !is || len(l) != 0 {
		t.Errorf("Since(4) behind the same again = %v, %v", l, is)
	}
}

// Since tells what was written at the step itself.
func TestSinceTheLastStep(t *testing.T) {
	d := made(t, 16)
	writes(t, d, 5, filled(1), api.OK)
	if l, is := d.Since(0); !is || !slices.Equal(l, []int{5}) {
		t.Errorf("Since(0) = %v, %v", l, is)
	}
}

// 5.4, and 5.6's last words

func TestNilDisk(t *testing.T) {
	var d *disk.Disk
	d.Plan([]api.Step{{Op: 1, Kind: api.StepBlock}})
	d.Plan(nil)
	d.Cut(api.Cut{Event: 3})
	d.Revive()
	if d.Blocks() != 0 || d.Ops() != 0 || d.Events() != 0 || !d.Dead() {
		t.Error("a nil disk has blocks, steps or events, or is alive")
	}
	for _, at := range []int{-1, 0, 1, math.MinInt, math.MaxInt} {
		if b, err := d.Read(at); b != (api.Block{}) || err != api.ErrCut {
			t.Errorf("Read(%d) = %v, %d", at, b, err)
		}
		if err := d.Write(at, filled(1)); err != api.ErrCut {
			t.Errorf("Write(%d) = %d", at, err)
		}
		if l, is := d.At(at); l != nil || is {
			t.Errorf("At(%d) = %v, %v", at, l, is)
		}
		if l, is := d.Since(at); l != nil || is {
			t.Errorf("Since(%d) = %v, %v", at, l, is)
		}
	}
	if err := d.Barrier(); err != api.ErrCut {
		t.Errorf("Barrier() = %d", err)
	}
	if takes, err := d.Event(); takes || err != api.ErrCut {
		t.Errorf("Event() = %v, %d", takes, err)
	}
	if len(d.Log()) != 0 || len(d.Image()) != 0 || len(d.Wear()) != 0 {
		t.Error("a nil disk tells something")
	}
	for _, image := range [][]api.Block{nil, {}, make([]api.Block, 16)} {
		if err := d.Load(image); err != api.ErrArg {
			t.Errorf("Load of %d blocks = %d", len(image), err)
		}
	}
}

// What holds everywhere: R4.

func TestListsAreNotTheDisksOwn(t *testing.T) {
	d := made(t, 16)
	steps := []api.Step{{Op: 3, Kind: api.StepBlock, At: 4, Data: filled(4)}, {Op: 3, Kind: api.StepBlock, At: 4, Data: filled(9)}}
	d.Plan(steps[:1])
	steps[0].Data, steps[0].At, steps[0].Op = filled(7), 5, 4
	image := make([]api.Block, 17)
	image[16] = filled(6)
	d.Load(image[:16])
	image[0] = filled(9)
	reads(t, d, 0, api.Block{})
	writes(t, d, 1, filled(1), api.OK)
	reads(t, d, 1, filled(1))
	reads(t, d, 4, filled(4))
	reads(t, d, 5, api.Block{})
	if image[16] != filled(6) || steps[1].Data != filled(9) {
		t.Error("the spare room of what was handed in is changed")
	}
	at, _ := d.At(3)
	since, _ := d.Since(0)
	for _, l := range [][]api.Block{d.Image(), at} {
		for i := range l {
			l[i] = filled(8)
		}
	}
	wear, log := d.Wear(), d.Log()
	wear[1], since[0], log[0] = 99, 99, api.Raw{Kind: 99}
	if l, _ := d.At(3); l[4] != filled(4) || d.Image()[1] != filled(1) || d.Wear()[1] != 1 || d.Log()[0] != (api.Raw{Kind: api.RawRead}) {
		t.Error("a list that was handed out is the disk's own")
	}
	if l, _ := d.Since(0); !slices.Equal(l, []int{1, 4}) {
		t.Errorf("Since(0) = %v", l)
	}
}

// What was handed out stays as the disk goes on, in its spare room, too.
func TestListsHandedOutStay(t *testing.T) {
	d := made(t, 16)
	writes(t, d, 1, filled(1), api.OK)
	log, image, wear := d.Log(), d.Image(), d.Wear()
	spare := log[:cap(log)]
	before := slices.Clone(spare)
	for n := range 40 {
		writes(t, d, 1, filled(byte(n+2)), api.OK)
	}
	if !slices.Equal(spare, before) || image[1] != filled(1) || wear[1] != 1 {
		t.Error("a list that was handed out changes as the disk goes on")
	}
	_ = append(log, api.Raw{Kind: 99})
	if l := d.Log(); l[1] != (api.Raw{Kind: api.RawWrite, At: 1, Data: filled(2)}) {
		t.Error("the spare room of a list that was handed out is the disk's own")
	}
}

package disk_test

import (
	"math"
	"slices"
	"testing"

	"signet/api"
)

// 5.1 and 5.2: the adversary.

func TestEachKindOfStep(t *testing.T) {
	d := made(t, 16)
	d.Plan([]api.Step{
		{Op: 3, Kind: api.StepBlock, At: 3, Data: filled(9)},
		{Op: 4, Kind: api.StepBack, At: 3, Back: 1},
		{Op: 5, Kind: api.StepAll, At: 8, Back: 2},
	})
	writes(t, d, 3, filled(1), api.OK)
	writes(t, d, 3, filled(2), api.OK)
	writes(t, d, 4, filled(4), api.OK)
	reads(t, d, 3, filled(9))
	reads(t, d, 3, filled(1))
	reads(t, d, 3, filled(2))
	reads(t, d, 4, api.Block{})
	counts(t, d, 7, 3)
	if wear := d.Wear(); wear[3] != 2 || wear[4] != 1 {
		t.Error("what the adversary does wears")
	}
	if len(d.Log()) != 7 {
		t.Error("what the adversary does is logged")
	}
}

// Blocks 0 and the last one, and bytes of all kinds.
func TestStepsAtTheEnds(t *testing.T) {
	d := made(t, 16)
	d.Plan([]api.Step{
		{Op: 1, Kind: api.StepBlock, At: 0, Data: filled(255)},
		{Op: 1, Kind: api.StepBlock, At: 15, Data: api.Block{255: 1}},
		{Op: 4, Kind: api.StepAll, At: 15, Back: 0},
	})
	reads(t, d, 0, api.Block{})
	reads(t, d, 0, filled(255))
	reads(t, d, 15, api.Block{255: 1})
	reads(t, d, 14, api.Block{})
	reads(t, d, 15, api.Block{})
	reads(t, d, 0, api.Block{})
}

// A step is done ahead of the raw step, whatever that is about, once, and no sooner.
func TestWhenStepsAreDone(t *testing.T) {
	d := made(t, 16)
	d.Plan([]api.Step{{Op: 2, Kind: api.StepBlock, At: 3, Data: filled(9)}, {Op: 4, Kind: api.StepBlock, At: 4, Data: filled(8)}})
	reads(t, d, 1, api.Block{})
	reads(t, d, 3, api.Block{})
	d.Barrier()
	d.Event()
	if d.Image()[3] != (api.Block{}) {
		t.Error("a step is done ahead of its time")
	}
	reads(t, d, 1, api.Block{})
	if d.Image()[3] != filled(9) {
		t.Error("a step is not done at a raw step of another block")
	}
	writes(t, d, 3, filled(1), api.OK)
	reads(t, d, 4, filled(8))
	reads(t, d, 3, filled(1))
}

// A Write lays its block behind what the adversary did; other blocks it leaves.
func TestStepsAheadOfAWrite(t *testing.T) {
	d := made(t, 16)
	d.Plan([]api.Step{
		{Op: 1, Kind: api.StepBlock, At: 3, Data: filled(9)},
		{Op: 1, Kind: api.StepBlock, At: 4, Data: filled(8)},
		{Op: 3, Kind: api.StepBack, At: 3, Back: 1},
	})
	reads(t, d, 3, api.Block{})
	writes(t, d, 3, filled(1), api.OK)
	if l := d.Image(); l[3] != filled(1) || l[4] != filled(8) {
		t.Errorf("Image() = %v", l)
	}
	reads(t, d, 3, filled(1))
	reads(t, d, 3, filled(9))
}

// The plan is done ahead of a Write at which a cut strikes, too.
func TestStepsAheadOfAWriteThatIsCut(t *testing.T) {
	for _, after := range []bool{false, true} {
		d := made(t, 16)
		reads(t, d, 3, api.Block{})
		d.Plan([]api.Step{{Op: 1, Kind: api.StepBlock, At: 3, Data: filled(9)}, {Op: 1, Kind: api.StepBlock, At: 4, Data: filled(8)}})
		d.Cut(api.Cut{Event: 0, After: after})
		writes(t, d, 3, filled(1), api.ErrCut)
		want := filled(9)
		if after {
			want = filled(1)
		}
		if l := d.Image(); l[3] != want || l[4] != filled(8) {
			t.Errorf("Image() = %v", l)
		}
		if l, is := d.At(1); !is || l[3] != filled(9) || l[4] != filled(8) {
			t.Errorf("At(1) = %v, %v", l, is)
		}
		counts(t, d, 2, 1)
	}
}

func TestStepsOfOneOp(t *testing.T) {
	lay := func(b byte) api.Step { return api.Step{Op: 2, Kind: api.StepBlock, At: 3, Data: filled(b)} }
	back := api.Step{Op: 2, Kind: api.StepBack, At: 3, Back: 1}
	all := api.Step{Op: 2, Kind: api.StepAll, At: 7, Back: 0}
	other := api.Step{Op: 3, Kind: api.StepBlock, At: 3, Data: filled(77)}
	for _, c := range []struct {
		steps []api.Step
		want  api.Block
	}{
		{[]api.Step{lay(8), lay(9)}, filled(9)},
		{[]api.Step{lay(9), lay(8)}, filled(8)},
		{[]api.Step{lay(9), back}, filled(1)},
		{[]api.Step{back, lay(9)}, filled(9)},
		{[]api.Step{lay(9), all}, api.Block{}},
		{[]api.Step{all, lay(9)}, filled(9)},
		{[]api.Step{all, back}, filled(1)},
		{[]api.Step{back, all}, api.Block{}},
		{[]api.Step{lay(9), all, back, lay(2)}, filled(2)},
		{[]api.Step{other, lay(9), other, lay(8), other}, filled(8)},
		{[]api.Step{lay(9), lay(2)}, filled(2)},
	} {
		d := made(t, 16)
		writes(t, d, 3, filled(1), api.OK)
		writes(t, d, 3, filled(2), api.OK)
		d.Plan(c.steps)
		reads(t, d, 3, c.want)
		if l, is := d.At(2); !is || l[3] != c.want {
			t.Errorf("At(2) behind %v = %v", c.steps, l)
		}
	}
}

// Steps of many Ops stand in the list in any order.
func TestStepsInAnyOrder(t *testing.T) {
	d := made(t, 16)
	var steps []api.Step
	for op := 20; op > 0; op-- {
		steps = append(steps, api.Step{Op: op, Kind: api.StepBlock, At: 3, Data: filled(byte(op))})
	}
	d.Plan(steps)
	for op := range 21 {
		reads(t, d, 3, filled(byte(op)))
	}
	reads(t, d, 3, filled(20))
}

// nothing is steps that do nothing on a disk of 16 blocks, ahead of the raw step 2.
func nothing() []api.Step {
	x := filled(9)
	var l []api.Step
	for kind := api.StepBlock; kind <= api.StepAll; kind++ {
		for _, at := range places() {
			l = append(l, api.Step{Op: 2, Kind: kind, At: at, Data: x, Back: 0})
		}
		for _, back := range []int{-1, -2, math.MinInt, 2, 3, 4, math.MaxInt} {
			l = append(l, api.Step{Op: 2, Kind: kind, At: 3, Data: x, Back: back})
		}
	}
	for _, kind := range []int{0, 4, -1, 5, math.MinInt, math.MaxInt} {
		l = append(l, api.Step{Op: 2, Kind: kind, At: 3, Data: x, Back: 1})
	}
	return l
}

func TestStepsThatDoNothing(t *testing.T) {
	steps := nothing()
	for _, s := range steps {
		d := made(t, 16)
		writes(t, d, 3, filled(1), api.OK)
		writes(t, d, 3, filled(2), api.OK)
		d.Plan([]api.Step{s})
		reads(t, d, 3, filled(2))
		reads(t, d, 3, filled(2))
		reads(t, d, 3, filled(2))
		if l, is := d.Since(2); !is || len(l) != 0 {
			t.Errorf("%v did something: %v", s, l)
		}
	}
	// Nor do they keep another one from what it does.
	d := made(t, 16)
	reads(t, d, 3, api.Block{})
	reads(t, d, 3, api.Block{})
	good := api.Step{Op: 2, Kind: api.StepBlock, At: 3, Data: filled(5), Back: 1}
	d.Plan(slices.Concat(steps, []api.Step{good}, steps))
	reads(t, d, 3, filled(5))
	if l, is := d.Since(1); !is || !slices.Equal(l, []int{3}) {
		t.Errorf("Since(1) = %v, %v", l, is)
	}
}

// Ahead of the first raw step no Back is below Op, so that steps there do nothing, whatever they are.
func TestStepsAheadOfTheFirstRawStep(t *testing.T) {
	for kind := range 5 {
		for _, back := range []int{-1, 0, 1} {
			d := made(t, 16)
			d.Load(slices.Repeat([]api.Block{filled(1)}, 16))
			d.Plan([]api.Step{
				{Op: 0, Kind: kind, At: 3, Data: filled(9), Back: back},
				{Op: 1, Kind: api.StepBlock, At: 3, Data: filled(8), Back: 0},
			})
			reads(t, d, 3, filled(1))
			reads(t, d, 3, filled(8))
			reads(t, d, 4, filled(1))
		}
	}
}

// An Op that is below 0, or that never comes.
func TestStepsOfNoRawStep(t *testing.T) {
	d := made(t, 16)
	d.Plan([]api.Step{
		{Op: -1, Kind: api.StepBlock, At: 3, Data: filled(9), Back: -2},
		{Op: math.MinInt, Kind: api.StepBlock, At: 3, Data: filled(9)},
		{Op: math.MaxInt, Kind: api.StepBlock, At: 3, Data: filled(9)},
	})
	for range 4 {
		reads(t, d, 3, api.Block{})
	}
}

// The one ahead is forgotten, and what is below Ops() is not done, neither at once nor later.
func TestPlanInTheMidst(t *testing.T) {
	d := made(t, 16)
	d.Plan([]api.Step{
		{Op: 1, Kind: api.StepBlock, At: 3, Data: filled(1)},
		{Op: 2, Kind: api.StepBlock, At: 4, Data: filled(2)},
		{Op: 3, Kind: api.StepBlock, At: 5, Data: filled(3)},
	})
	reads(t, d, 3, api.Block{})
	reads(t, d, 3, filled(1))
	d.Plan([]api.Step{
		{Op: 0, Kind: api.StepBlock, At: 6, Data: filled(60)},
		{Op: 1, Kind: api.StepBlock, At: 6, Data: filled(61)},
		{Op: 2, Kind: api.StepBlock, At: 7, Data: filled(7)},
		{Op: 3, Kind: api.StepBlock, At: 8, Data: filled(8)},
	})
	if d.Image()[6] != (api.Block{}) || d.Image()[7] != (api.Block{}) {
		t.Error("a plan is done when it is laid")
	}
	reads(t, d, 4, api.Block{})
	reads(t, d, 5, api.Block{})
	reads(t, d, 6, api.Block{})
	reads(t, d, 7, filled(7))
	reads(t, d, 8, filled(8))
	reads(t, d, 3, filled(1)) // what the first plan did stays
	d.Plan([]api.Step{{Op: 9, Kind: api.StepBlock, At: 3, Data: filled(99)}})
	d.Plan(nil)
	for range 4 {
		reads(t, d, 3, filled(1))
	}
}

// What a block was at k has what the adversary did ahead of k, and not what was written at k.
func TestBackToWhatTheAdversaryDid(t *testing.T) {
	for _, kind := range []int{api.StepBack, api.StepAll} {
		d := made(t, 16)
		d.Plan([]api.Step{
			{Op: 1, Kind: api.StepBlock, At: 3, Data: filled(9)},
			{Op: 1, Kind: api.StepBlock, At: 4, Data: filled(8)},
			{Op: 3, Kind: kind, At: 3, Back: 1},
			{Op: 5, Kind: kind, At: 3, Back: 0},
			{Op: 6, Kind: kind, At: 3, Back: 4},
			{Op: 7, Kind: kind, At: 3, Back: 6},
		})
		reads(t, d, 3, api.Block{})
		writes(t, d, 3, filled(1), api.OK)
		writes(t, d, 4, filled(2), api.OK)
		reads(t, d, 3, filled(9))
		fourth := filled(2)
		if kind == api.StepAll {
			fourth = filled(8)
		}
		reads(t, d, 4, fourth)
		reads(t, d, 3, api.Block{})
		reads(t, d, 3, filled(9))
		reads(t, d, 3, filled(9))
	}
}

// Back to a step and forth again, by plans that are laid on the way.
func TestBackAndForth(t *testing.T) {
	d := made(t, 16)
	for n := range 10 {
		writes(t, d, 3, filled(byte(n+1)), api.OK)
		writes(t, d, n, filled(byte(n+101)), api.OK)
	}
	for k := range 20 {
		want, is := d.At(k)
		d.Plan([]api.Step{{Op: d.Ops(), Kind: api.StepAll, Back: k}})
		reads(t, d, 3, want[3])
		if got := d.Image(); !is || !slices.Equal(got, want) {
			t.Errorf("all blocks as they were at %d: %v, want %v", k, got, want)
		}
	}
}

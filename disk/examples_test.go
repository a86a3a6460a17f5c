package disk_test

import (
	"testing"

	"signet/api"
	"signet/disk"
)

// The examples of chapter 5.

func TestFirstExamples(t *testing.T) {
	if d, err := disk.New(15); d != nil || err != api.ErrArg {
		t.Error(d, err)
	}
	d, err := disk.New(16)
	if err != api.OK {
		t.Fatal(err)
	}
	b := filled(5)
	reads(t, d, 3, api.Block{})
	writes(t, d, 3, b, api.OK)
	reads(t, d, 3, b)
	counts(t, d, 3, 1)
}

func TestSecondExamples(t *testing.T) {
	d := made(t, 16)
	x := filled(7)
	d.Plan([]api.Step{{Op: 1, Kind: api.StepBlock, At: 3, Data: x}})
	reads(t, d, 3, api.Block{})
	reads(t, d, 3, x)
	d.Plan([]api.Step{{Op: 2, Kind: api.StepBack, At: 3, Back: 0}})
	reads(t, d, 3, api.Block{})
}

func TestThirdExamples(t *testing.T) {
	d := made(t, 16)
	b := filled(5)
	d.Cut(api.Cut{Event: 0, After: false})
	writes(t, d, 3, b, api.ErrCut)
	if d.Image()[3] != (api.Block{}) {
		t.Error("the block does not stay")
	}
	if got, err := d.Read(3); got != (api.Block{}) || err != api.ErrCut {
		t.Error(got, err)
	}
	d.Revive()
	reads(t, d, 3, api.Block{})
	d.Cut(api.Cut{Event: 1, After: true})
	writes(t, d, 3, b, api.ErrCut)
	if d.Image()[3] != b {
		t.Error("the block is not b")
	}
}

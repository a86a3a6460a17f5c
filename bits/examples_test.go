package bits_test

import (
	"slices"
	"testing"

	"signet/api"
	"signet/bits"
)

// The examples of chapter 11.

func TestExamples(t *testing.T) {
	if m, err := bits.New(0); m != nil || err != api.ErrArg {
		t.Error(m, err)
	}
	m, err := bits.New(16)
	if err != api.OK {
		t.Fatal(err)
	}
	if !m.Set(3) {
		t.Error("Set(3) is false")
	}
	if m.Set(3) {
		t.Error("Set(3) is true again")
	}
	if m.Count() != 1 || m.Next(0) != 3 || m.Free(3) != 4 {
		t.Error(m.Count(), m.Next(0), m.Free(3))
	}
	if got := m.Runs(); !slices.Equal(got, []api.Run{{From: 3, To: 3}}) {
		t.Error(got)
	}
	if l := m.Leaves(); len(l) != 1 || l[0][128] != 8 {
		t.Error(l)
	}
	if m, err := bits.FromLeaves(16, make([]api.Block, 1)); m != nil || err != api.ErrLeaves {
		t.Error(m, err)
	}
}

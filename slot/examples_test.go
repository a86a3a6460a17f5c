package slot_test

import (
	"slices"
	"testing"

	"signet/api"
)

// The examples of chapter 6.

func TestFirstExamples(t *testing.T) {
	r, _ := made(t)
	root := api.Ref{At: 2, Sum: api.Sum{7}}
	writes(t, r, api.Slot{Counter: 1, Root: root}, api.OK)
	writes(t, r, api.Slot{Counter: 1, Root: root}, api.ErrBack)
	writes(t, r, api.Slot{Counter: 3, Root: root}, api.ErrBack)
	writes(t, r, api.Slot{Counter: 2}, api.ErrArg)
	if s, err := r.Read(); s.Counter != 1 || s.Root != root || err != api.OK {
		t.Error(s, err)
	}
}

func TestSecondExamples(t *testing.T) {
	s := api.Slot{Counter: 1, Root: api.Ref{At: 2, Sum: api.Sum{7}}}
	for _, c := range []struct {
		cut  api.Cut
		want api.Slot
	}{{api.Cut{Event: 0, After: true}, s}, {api.Cut{Event: 0, After: false}, api.Slot{}}} {
		r, d := made(t)
		d.Cut(c.cut)
		writes(t, r, s, api.ErrCut)
		d.Revive()
		reads(t, r, c.want)
	}
}

func TestThirdExamples(t *testing.T) {
	r, _ := written(t, 3)
	if s, is := r.At(2); s != one(2) || !is {
		t.Error(s, is)
	}
	if l := r.Between(2, 9); !slices.Equal(l, ones(2, 3)) {
		t.Error(l)
	}
	if n, is := r.Age(one(1)); n != 2 || !is {
		t.Error(n, is)
	}
}

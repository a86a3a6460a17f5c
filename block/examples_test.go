package block_test

import (
	"slices"
	"testing"

	"signet/api"
	"signet/block"
)

// The examples of chapter 4.

func TestFirstExamples(t *testing.T) {
	if b, err := block.Of("ab"); b != (api.Block{97, 98}) || err != api.OK {
		t.Error(b, err)
	}
	if b, err := block.Lay(api.Block{}, 255, "ab"); b != (api.Block{}) || err != api.ErrBytes {
		t.Error(b, err)
	}
	if b, err := block.Lay(api.Block{}, 256, ""); b != (api.Block{}) || err != api.OK {
		t.Error(b, err)
	}
	if s, err := block.Take(stepped(1, 1), 256, 0); s != "" || err != api.OK {
		t.Error(s, err)
	}
	two := block.Cut(text(257))
	if len(two) != 2 {
		t.Error(len(two))
	}
	if s, err := block.Join(two, 513); s != "" || err != api.ErrArg {
		t.Error(s, err)
	}
}

func TestSecondExamples(t *testing.T) {
	if first, many := block.Differ(api.Block{}, api.Block{'a'}); first != 0 || many != 1 {
		t.Error(first, many)
	}
	x, y := api.Block{1}, api.Block{2}
	if l := block.Groups([]api.Block{x, y, x}); !same(l, [][]int{{0, 2}, {1}}) {
		t.Error(l)
	}
	if b, err := block.Lay32(api.Block{}, 253, 1); b != (api.Block{}) || err != api.ErrBytes {
		t.Error(b, err)
	}
}

func TestThirdExamples(t *testing.T) {
	if l := block.Patches(api.Block{}, api.Block{'a', 0, 'b'}); !slices.Equal(l, []api.Patch{{At: 0, Data: "a"}, {At: 2, Data: "b"}}) {
		t.Error(l)
	}
	if b, at, err := block.Apply(api.Block{}, []api.Patch{{At: 255, Data: "ab"}}); b != (api.Block{}) || at != 0 || err != api.ErrBytes {
		t.Error(b, at, err)
	}
	x, y := api.Block{1}, api.Block{2}
	if at, many := block.Near([]api.Block{x, y}, y); at != 1 || many != 0 {
		t.Error(at, many)
	}
}

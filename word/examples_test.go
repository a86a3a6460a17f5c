package word_test

import (
	"testing"

	"signet/api"
	"signet/word"
)

// The examples of chapter 1.

func TestFirstExamples(t *testing.T) {
	if b := word.Bytes32(1); b != [4]byte{1, 0, 0, 0} {
		t.Error(b)
	}
	if n, ok := word.Take16("ab", 0); n != 25185 || !ok {
		t.Error(n, ok)
	}
	if n, ok := word.Take16("ab", 1); n != 0 || ok {
		t.Error(n, ok)
	}
	if n := word.Turn(1, -1); n != 2147483648 {
		t.Error(n)
	}
	if n := word.Shift(1, 64); n != 0 {
		t.Error(n)
	}
	if n := word.Lean(-5, -1); n != -3 {
		t.Error(n)
	}
	if n := word.Lean(-5, -64); n != -1 {
		t.Error(n)
	}
}

func TestSecondExamples(t *testing.T) {
	if n, err := word.Extend(255, 8); n != -1 || err != api.OK {
		t.Error(n, err)
	}
	if n, err := word.Extend(255, 9); n != 255 || err != api.OK {
		t.Error(n, err)
	}
	if x, err := word.Narrow(-1, 8); x != 255 || err != api.OK {
		t.Error(x, err)
	}
	if x, err := word.Narrow(128, 8); x != 0 || err != api.ErrWide {
		t.Error(x, err)
	}
	if n, err := word.Over(5, 2); n != 2 || err != api.OK {
		t.Error(n, err)
	}
	if n := word.High(0); n != -1 {
		t.Error(n)
	}
	if x, err := word.Turned(1, 2); x != 256 || err != api.OK {
		t.Error(x, err)
	}
	if x, err := word.Field(0xf0, 4, 4); x != 15 || err != api.OK {
		t.Error(x, err)
	}
	if x, err := word.Lay(0, 4, 4, 16); x != 0 || err != api.ErrWide {
		t.Error(x, err)
	}
}

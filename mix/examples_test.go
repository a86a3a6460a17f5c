package mix_test

import (
	"testing"

	"signet/api"
	"signet/mix"
)

// The examples of chapter 2.

func TestFirstExample(t *testing.T) {
	a, b, c, d := mix.Quarter(0x11111111, 0x01020304, 0x9b8d6f43, 0x01234567)
	if a != 0xea2a92f4 || b != 0xcb1cf8ce || c != 0x4581472e || d != 0x5881c4bb {
		t.Errorf("%#x %#x %#x %#x", a, b, c, d)
	}
}

func TestSecondExamples(t *testing.T) {
	var noughts api.State
	one := noughts
	one[0] = 1
	l, err := mix.Trail(noughts, 0, 1)
	if err != api.OK || len(l) != 2 || l[0] != 1 || l[1] != mix.Apart(noughts, mix.Round(one, false)) {
		t.Error(l, err)
	}
	if s, err := mix.Rounds(counted(), 65); s != noughts || err != api.ErrArg {
		t.Error(s, err)
	}
	if n := mix.Apart(counted(), counted()); n != 0 {
		t.Error(n)
	}
}

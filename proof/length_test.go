package proof_test

import (
	"math"
	"strings"
	"testing"

	"signet/api"
	"signet/proof"
)

// 25.3

func TestBlocks(t *testing.T) {
	for many, want := range map[int]int{
		1: 0, 2: 0, 255: 0, 256: 1, 257: 1, 511: 1, 512: 2, 513: 2, 1800: 7, 65535: 255, 65536: 256, 16777215: 65535, 16777216: 65536,
	} {
		for _, s := range []string{"\x00", "x", "\xff"} {
			if got, err := proof.Blocks(strings.Repeat(s, many)); got != want || err != api.OK {
				t.Errorf("Blocks of %d bytes = %d, %d; want %d", many, got, err, want)
			}
		}
	}
	for _, many := range []int{0, 16777217, 16777472, 1 << 25} {
		if got, err := proof.Blocks(strings.Repeat("x", many)); got != 0 || err != api.ErrProof {
			t.Errorf("Blocks of %d bytes = %d, %d; want ErrProof", many, got, err)
		}
	}
}

func TestLongest(t *testing.T) {
	for _, c := range [][3]int{
		{0, 0, 2048},
		{0, 1, 2048 + 7*256},
		{0, 2, 2048 + 2*7*256},
		{0, 255, 2048 + 2*7*256},
		{0, 256, 2048 + 2*7*256},
		{0, 257, 2048 + 2*7*256},
		{0, 258, 2048 + 3*7*256},
		{0, 513, 2048 + 3*7*256},
		{0, 514, 2048 + 4*7*256},
		{1, 0, 2048 + 14*256 + 4},
		{1, 1, 2048 + 21*256 + 4},
		{2, 3, 2048 + 42*256 + 8},
		{31, 0, 2048 + 31*14*256 + 124},
		{32, 0, 2048 + 32*14*256 + 128},
		{32, 2, 2048 + 32*14*256 + 128 + 2*7*256},
		{0, 1048575, 2048 + 4097*7*256},
		{0, 1048576, 2048 + 4097*7*256},
		{32, 1048576, 2048 + 32*14*256 + 128 + 4097*7*256},
	} {
		if got, err := proof.Longest(c[0], c[1]); got != c[2] || err != api.OK {
			t.Errorf("Longest(%d, %d) = %d, %d; want %d", c[0], c[1], got, err, c[2])
		}
	}
}

// The chapter's words for all names, and for all that may be asked of a small file and of the greatest.
func TestLongestByTheWords(t *testing.T) {
	for names := range api.MaxDepth + 1 {
		for n := range api.MaxFile + 1 {
			if n > 3000 && n < api.MaxFile-600 && n%251 > 0 {
				continue
			}
			leaves := 0
			if n > 0 {
				leaves = (n + 510) >> 8
			}
			want := 256*(1+7*(names+1)+7*names+7*leaves) + 4*names
			if got, err := proof.Longest(names, n); got != want || err != api.OK {
				t.Fatalf("Longest(%d, %d) = %d, %d; want %d", names, n, got, err, want)
			}
		}
	}
}

func TestWrongLongest(t *testing.T) {
	wrong := append([]int{-2, 33, 64, 1 << 20, 1 << 40}, far...)
	for _, names := range wrong {
		for _, n := range append([]int{0, 1, api.MaxFile}, wrong...) {
			if got, err := proof.Longest(names, n); got != 0 || err != api.ErrArg {
				t.Errorf("Longest(%d, %d) = %d, %d; want ErrArg", names, n, got, err)
			}
		}
	}
	for _, n := range append([]int{-2, -256, api.MaxFile + 1, api.MaxFile + 256, 1 << 32, math.MaxInt - 510}, far...) {
		for _, names := range []int{0, 1, 32} {
			if got, err := proof.Longest(names, n); got != 0 || err != api.ErrArg {
				t.Errorf("Longest(%d, %d) = %d, %d; want ErrArg", names, n, got, err)
			}
		}
	}
}

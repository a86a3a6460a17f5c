package dir_test

import (
	"math"
	"testing"

	"signet/api"
)

// 17.4

func TestNilInodes(t *testing.T) {
	for _, op := range ops {
		for _, n := range append([]int{1, 2, api.MaxInodes}, noNumbers...) {
			for _, number := range []int{-1, 0, 1, 2, api.MaxInodes, api.MaxInodes + 1, math.MinInt, math.MaxInt} {
				for _, s := range append([]string{"a", "*", long()}, noNames...) {
					c := call{op: op, dir: n, s: s, inode: number, n: number, stamp: 9}
					if got := c.do(nil); got != (answer{err: api.ErrArg}) {
						t.Errorf("%s on nil = %s; want ErrArg", c.brief(), got.brief())
					}
				}
			}
		}
	}
}

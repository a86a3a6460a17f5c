package file_test

import (
	"math"
	"testing"

	"signet/api"
)

// 16.5

func TestNilInodes(t *testing.T) {
	for _, op := range ops {
		for _, n := range append([]int{1, 2, api.MaxInodes}, noNumbers...) {
			for _, number := range []int{-1, 0, 1, 256, api.MaxFile, api.MaxFile + 1, math.MinInt, math.MaxInt} {
				for _, s := range []string{"", "a", zeros(api.MaxFile + 1)} {
					for _, to := range []int{n, 1, 0} {
						c := call{op: op, n: n, at: number, many: number, to: to, place: number, s: s, stamp: 9}
						if got := c.do(nil); got != (answer{err: api.ErrArg}) {
							t.Errorf("%s on nil = %s; want ErrArg", c.brief(), got.brief())
						}
					}
				}
			}
		}
	}
}

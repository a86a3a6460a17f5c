package proof_test

import (
	"testing"

	"signet/api"
	"signet/disk"
	"signet/proof"
)

// Each call with a cache that is nil, whatever else it is given.
func TestNilCache(t *testing.T) {
	b, s := world(t)
	then := b.stands()
	for _, s := range []api.Slot{s, {}, {Counter: 1}, {Counter: 9, Root: api.Ref{At: 9}}, {Root: api.Ref{Sum: api.Sum{1}}}} {
		for _, p := range []string{"/", "/d/f", "/d/f/", "/x", "", "x", depth(33), "/\x00", full(1025)} {
			for _, at := range [][2]int{{0, 0}, {1, 3}, {-1, 0}, {0, -1}, {0, 1 << 40}} {
				b.same(p, b.ask(nil, s, p, at[0], at[1]), fails(api.ErrCut))
			}
		}
	}
	b.unread("a call with a nil cache", then)
}

// A cache that can't be made is nil, too.
func TestCacheOfNoDisk(t *testing.T) {
	d, err := disk.New(1)
	if d != nil || err != api.ErrArg {
		t.Fatalf("a disk of one block: %v, %d", d, err)
	}
	if _, _, err := proof.Make(nil, api.Slot{}, "/", 0, 0); err != api.ErrCut {
		t.Errorf("Make = %d", err)
	}
}

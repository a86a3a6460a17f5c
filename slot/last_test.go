package slot

import (
	"math"
	"testing"

	"signet/api"
	"signet/disk"
)

// No run of Writes comes so far, so this test lays the last counter into the register itself (6.1): none goes on from there, 0 neither.
func TestNoCounterGoesOnFromTheLast(t *testing.T) {
	d, _ := disk.New(16)
	last := api.Slot{Counter: math.MaxUint64, Root: api.Ref{At: 2}}
	r := New(d)
	r.written = []api.Slot{last}
	for _, c := range []uint64{0, 1, 2, math.MaxUint64 - 1, math.MaxUint64} {
		if err := r.Write(api.Slot{Counter: c, Root: last.Root}); err != api.ErrBack {
			t.Errorf("Write of the counter %d = %d", c, err)
		}
	}
	if s, err := r.Read(); s != last || err != api.OK || d.Events() != 0 {
		t.Errorf("Read() = %v, %d behind %d events", s, err, d.Events())
	}
}

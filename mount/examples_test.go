package mount_test

import (
	"testing"

	"signet/api"
	"signet/disk"
	"signet/mount"
	"signet/slot"
)

func TestFirstExample(t *testing.T) {
	d, _ := disk.New(16)
	r := slot.New(d)
	if n, err := mount.Least(16); n != 3 || err != api.OK {
		t.Errorf("Least(16) = %d, %d; want 3", n, err)
	}
	if s, err := mount.Mount(d, r, nil, 0); s != nil || err != api.ErrFresh {
		t.Errorf("Mount on a fresh register = %v, %d; want ErrFresh", s, err)
	}
	if err := mount.Format(d, r, nil); err != api.OK {
		t.Errorf("Format = %d; want OK", err)
	}
	if err := mount.Format(d, r, nil); err != api.ErrFormat {
		t.Errorf("Format again = %d; want ErrFormat", err)
	}
	if s, err := mount.Mount(d, r, nil, 0); err != api.OK || s.Root().Used != 3 {
		t.Errorf("Mount = %+v, %d; want a state with 3 used blocks", s.Root(), err)
	}
}

func TestSecondExample(t *testing.T) {
	for _, c := range []struct{ size, want int }{{0, 0}, {256, 1}, {257, 3}, {1025, 8}} {
		if n, err := mount.Need(c.size); n != c.want || err != api.OK {
			t.Errorf("Need(%d) = %d, %d; want %d", c.size, n, err, c.want)
		}
	}
	if n, err := mount.Left(formatted(t, 16).mount(0)); n != 12 || err != api.OK {
		t.Errorf("Left of a fresh system of 16 blocks = %d, %d; want 12", n, err)
	}
}

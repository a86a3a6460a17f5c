package name_test

import (
	"strings"
	"testing"

	"signet/api"
	"signet/name"
)

func TestFirstExamples(t *testing.T) {
	for _, s := range []string{"", ".", "a/b"} {
		if err := name.Check(s); err != api.ErrName {
			t.Errorf("Check(%q) = %d; want ErrName", s, err)
		}
	}
	want := "\x01\x00\x00\x00\x01\x00\x00\x00a" + strings.Repeat("\x00", 55)
	if s, err := name.Encode(link(1, "a")); s != want || err != api.OK {
		t.Errorf("Encode({1, a}) = %q, %d; want %q", s, err, want)
	}
	if b, err := name.Leaf(); b != (api.Block{}) || err != api.OK {
		t.Errorf("Leaf() = %q, %d; want 256 zeros", b, err)
	}
	if l, err := name.FromLeaf(api.Block{}, 1); len(l) != 0 || err != api.ErrEntry {
		t.Errorf("FromLeaf(zeros, 1) = %v, %d; want ErrEntry", l, err)
	}
	if n, err := name.Leaves(5); n != 2 || err != api.OK {
		t.Errorf("Leaves(5) = %d, %d; want 2", n, err)
	}
}

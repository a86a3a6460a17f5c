package verify_test

import (
	"strings"
	"testing"

	"signet/api"
	"signet/proof"
	"signet/verify"
)

// 26.3: sizes, and how many blocks are taken.

// sized asks Size and Taken.
func sized(t *testing.T, s api.Slot, p, text string, size, taken int, want api.Errno) {
	t.Helper()
	question{s, p, 0, "", text}.asked(t)
	if n, err := verify.Size(nil, s, p, text); n != size || err != want {
		t.Errorf("Size of %s = %d, %d; want %d, %d", p, n, err, size, want)
	}
	if n, err := verify.Taken(nil, s, p, text); n != taken || err != want {
		t.Errorf("Taken of %s = %d, %d; want %d, %d", p, n, err, taken, want)
	}
}

func TestSizes(t *testing.T) {
	b, s := world(t)
	table := b.s.Root().Table.Height + 1
	entries := map[string]int{} // blocks on a way in each directory
	for _, p := range []string{"/", "/d", "/four", "/five", "/many"} {
		_, i, err := proof.Inode(b.s.Cache(), s, p)
		b.ok(err)
		entries[p] = i.Tree.Height + 1
	}
	for _, x := range []struct {
		p     string
		size  int
		above []string
	}{
		{"/empty", 0, nil}, {"/one", 1, nil}, {"/leaf", 256, nil}, {"/two", 257, nil}, {"/long", 1300, nil}, {"/holes", 5150, nil}, {"/zeros", 5000, nil}, {"/great", api.MaxFile, nil},
		{"/d/f", 5, []string{"/d"}}, {"/four" + numbered(0), 5, []string{"/four"}}, {"/five" + numbered(4), 5, []string{"/five"}}, {"/many" + numbered(60), 5, []string{"/many"}},
	} {
		taken := 1 + table + entries["/"] + table
		for _, p := range x.above {
			taken += entries[p] + table
		}
		text := b.proof(x.p, 0, 0)
		sized(t, s, x.p, text, x.size, taken, api.OK)
		if n := (len(text) - 4*strings.Count(x.p, "/")) / 256; n != taken {
			t.Errorf("the text of %s has %d blocks", x.p, n)
		}
		sized(t, s, x.p, b.proof(x.p, x.size, 0), x.size, taken, api.OK)
		sized(t, s, x.p, text+"\x00", 0, 0, api.ErrProof)
		sized(t, s, x.p, text[:len(text)-1], 0, 0, api.ErrProof)
		sized(t, s, x.p, turned(text, 8*len(text)-1), 0, 0, api.ErrTampered)
		sized(t, s, x.p+"/", text, 0, 0, api.ErrDir)
		sized(t, s, x.p+"/x", text, 0, 0, api.ErrDir)
		sized(t, s, x.p[1:], text, 0, 0, api.ErrPath)
		sized(t, api.Slot{}, x.p, text, 0, 0, api.ErrProof)
		sized(t, s, x.p, "", 0, 0, api.ErrProof)
	}
	// A proof of bytes has more than one of none.
	sized(t, s, "/one", b.proof("/one", 0, 1), 0, 0, api.ErrProof)
	sized(t, s, "/zeros", b.proof("/zeros", 0, 5000), 5000, 1+table+entries["/"]+table, api.OK)
}

// How many blocks are taken of every proof that is OK: those of its text.
func TestTakenOfEveryPath(t *testing.T) {
	b, s := world(t)
	for _, x := range ranges {
		text := b.proof(x.p, 0, 0)
		met := meantCheck(s, x.p, 0, "", text)
		if len(text) != 256*len(met.blocks)+4*len(met.places) {
			t.Fatalf("a text of %d has %d blocks and %d places", len(text), len(met.blocks), len(met.places))
		}
		sized(t, s, x.p, text, met.inode.Size, len(met.blocks), api.OK)
	}
	sized(t, s, depth(32), b.proof(depth(32), 0, 0), 700, len(b.proof(depth(32), 0, 0))/256, api.OK)
}

// Directories have no size here.
func TestSizesOfDirectories(t *testing.T) {
	b, s := world(t)
	for _, p := range []string{"/", "/none", "/none/", "/single", "/five", "/many", depth(31), depth(31) + "/"} {
		_, text := b.list(p)
		sized(t, s, p, text, 0, 0, api.ErrArg)
	}
}

// A slot before has the size that was committed then.
func TestSizesBefore(t *testing.T) {
	b, first := small(t)
	text := b.proof("/d/f", 0, 0)
	b.write("/d/f", map[int]string{0: full(300)})
	second := b.commit()
	sized(t, first, "/d/f", text, 5, 6, api.OK)
	sized(t, second, "/d/f", text, 0, 0, api.ErrTampered)
	sized(t, second, "/d/f", b.proof("/d/f", 0, 0), 300, 6, api.OK)
	sized(t, first, "/d/f", b.proof("/d/f", 0, 0), 0, 0, api.ErrTampered)
}

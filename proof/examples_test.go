package proof_test

import (
	"testing"

	"signet/api"
	"signet/proof"
)

// The chapter's examples.
func TestExamples(t *testing.T) {
	g := formatted(t, 64)
	c := g.cache(4)
	if b, p, err := proof.Make(c, g.slot(), "/", 0, 0); b != "" || p != "" || err != api.ErrArg {
		t.Errorf("Make of / = %q, %d bytes, %d", b, len(p), err)
	}
	if b, p, err := proof.Make(c, g.slot(), "/a", 0, 1); b != "" || p != "" || err != api.ErrMissing {
		t.Errorf("Make of /a = %q, %d bytes, %d", b, len(p), err)
	}
	if n, err := proof.Blocks(""); n != 0 || err != api.ErrProof {
		t.Errorf("Blocks of nothing = %d, %d", n, err)
	}
	if n, err := proof.Longest(0, 0); n != 2048 || err != api.OK {
		t.Errorf("Longest(0, 0) = %d, %d", n, err)
	}
}

// The first example of the whole: seven blocks and two places of entries.
func TestTheExampleOfTheWhole(t *testing.T) {
	b := building(t, 16)
	b.dir("/d")
	b.file("/d/f", 5, map[int]string{0: "hello"})
	s := b.commit()
	bytes, text, err := proof.Make(b.s.Cache(), s, "/d/f", 1, 3)
	if bytes != "ell" || len(text) != 1800 || err != api.OK {
		t.Fatalf("Make = %q, %d bytes, %d", bytes, len(text), err)
	}
	// The table has one leaf: it comes three times, one for each inode.
	root, table := text[:256], text[256:512]
	place, entries := text[512:516], text[516:772]
	if text[772:1028] != table || text[1028:1032] != "\x00\x00\x00\x00" || text[1288:1544] != table {
		t.Error("the table's leaf does not come for each inode")
	}
	if root[:8] != "signet01" || place != "\x00\x00\x00\x00" || entries[:9] != "\x02\x00\x00\x00\x01\x00\x00\x00d" || text[1032:1041] != "\x03\x00\x00\x00\x01\x00\x00\x00f" {
		t.Errorf("root %q, place %q, entries %q and %q", root[:8], place, entries[:9], text[1032:1041])
	}
	if text[1544:1550] != "hello\x00" {
		t.Errorf("the file's leaf begins with %q", text[1544:1550])
	}
}

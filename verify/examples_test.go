package verify_test

import (
	"testing"

	"signet/api"
	"signet/digest"
	"signet/verify"
)

// The chapter's examples.

func TestFirstExamples(t *testing.T) {
	b, s := small(t)
	text := b.proof("/d/f", 1, 3)
	for _, l := range []*digest.Log{nil, digest.NewLog()} {
		if err := verify.Check(l, s, "/d/f", 1, "ell", ""); err != api.ErrProof {
			t.Errorf("Check with an empty text = %d", err)
		}
		if err := verify.Check(l, s, "a", 1, "ell", text); err != api.ErrPath {
			t.Errorf("Check of the path a = %d", err)
		}
		if err := verify.Check(l, s, "/d/f", 1, "ell", text); err != api.OK {
			t.Errorf("Check of a right proof = %d", err)
		}
		if err := verify.Check(l, s, "/d/f", 1, "ell", text+"\x00"); err != api.ErrProof {
			t.Errorf("Check of a right proof with a byte more = %d", err)
		}
		if err := verify.Check(l, s, "/d/f", 1, "ell", turned(text, 9000)); err != api.ErrTampered {
			t.Errorf("Check of a proof with one bit turned over = %d", err)
		}
		if err := verify.Check(l, s, "/d/f", 1, "elk", text); err != api.ErrClaim {
			t.Errorf("Check with other bytes = %d", err)
		}
	}
}

func TestSecondExamples(t *testing.T) {
	b := building(t, 64)
	b.dir("/d", "/d/b")
	b.file("/d/a", 0, nil)
	s := b.commit()
	links, text := b.list("/d")
	if len(links) != 2 || links[0].Name != "a" || links[1].Name != "b" {
		t.Fatalf("List = %v", links)
	}
	if err := verify.CheckList(nil, s, "/d", links, text); err != api.OK {
		t.Errorf("CheckList of both = %d", err)
	}
	if err := verify.CheckList(nil, s, "/d", links[:1], text); err != api.ErrClaim {
		t.Errorf("CheckList of one = %d", err)
	}
	if err := verify.CheckMissing(nil, s, "/d/c", text); err != api.OK {
		t.Errorf("CheckMissing of /d/c = %d", err)
	}
	if err := verify.CheckMissing(nil, s, "/d/a", text); err != api.ErrClaim {
		t.Errorf("CheckMissing of /d/a = %d", err)
	}
}

// The first example of the whole: seven blocks and two places of entries.
func TestTheExampleOfTheWhole(t *testing.T) {
	b, s := small(t)
	text := b.proof("/d/f", 1, 3)
	if len(text) != 1800 {
		t.Errorf("the proof has %d bytes", len(text))
	}
	for claim, want := range map[string]api.Errno{"ell": api.OK, "elk": api.ErrClaim} {
		if err := verify.Check(nil, s, "/d/f", 1, claim, text); err != want {
			t.Errorf("Check of %s = %d; want %d", claim, err, want)
		}
	}
	// Without the file's leaf it is a proof of no bytes.
	if n, err := verify.Taken(nil, s, "/d/f", text[:len(text)-256]); n != 6 || err != api.OK {
		t.Errorf("Taken = %d, %d", n, err)
	}
}

package verify_test

import (
	"slices"
	"strings"
	"testing"

	"signet/api"
	"signet/digest"
	"signet/verify"
)

// What is taken is digested in the log, as blocks, and nothing else; with no log the answers are the same.

// entriesOf is all that a log has.
func entriesOf(l *digest.Log) (all []api.Entry) {
	for i := range l.Len() {
		x, _ := l.At(i)
		all = append(all, x)
	}
	return all
}

// each asks each call once, by a name.
func each(l *digest.Log, s api.Slot, p string, links []api.Link, text string) map[string]api.Errno {
	_, root := verify.Root(l, s, text)
	_, size := verify.Size(l, s, p, text)
	_, taken := verify.Taken(l, s, p, text)
	_, list := verify.List(l, s, p, text)
	return map[string]api.Errno{
		"Root": root, "Size": size, "Taken": taken, "List": list,
		"Check":        verify.Check(l, s, p, 1, "ell", text),
		"CheckList":    verify.CheckList(l, s, p, links, text),
		"CheckMissing": verify.CheckMissing(l, s, p, text),
	}
}

func TestWhatIsTakenIsDigested(t *testing.T) {
	b, s := small(t)
	text := b.proof("/d/f", 1, 3)
	met := meantCheck(s, "/d/f", 1, "ell", text)
	var want []api.Entry
	for _, at := range met.blocks {
		if x := (api.Entry{Tag: api.TagBlock, Text: text[at : at+256]}); !slices.Contains(want, x) {
			want = append(want, x)
		}
	}
	// The table has one leaf: it is taken three times, and in the log once.
	if len(want) != 5 || len(met.blocks) != 7 {
		t.Fatalf("%d of %d blocks", len(want), len(met.blocks))
	}
	l := digest.NewLog()
	for range 2 {
		if err := verify.Check(l, s, "/d/f", 1, "ell", text); err != api.OK || !slices.Equal(entriesOf(l), want) {
			t.Errorf("Check = %d, and digested %d texts", err, l.Len())
		}
	}
	for _, x := range want {
		if !l.Has(api.TagBlock, x.Text) || l.Has(api.TagProof, x.Text) {
			t.Error("a block is digested with another tag")
		}
	}
	if _, _, both := l.Collision(); both {
		t.Error("the log has a collision")
	}
}

// A wrong block is digested, and nothing behind it.
func TestNothingIsDigestedBehindAFault(t *testing.T) {
	b, s := small(t)
	text := b.proof("/d/f", 1, 3)
	met := meantCheck(s, "/d/f", 1, "ell", text)
	for i, at := range met.blocks {
		bad := turned(text, 8*at+77)
		l := digest.NewLog()
		if err := verify.Check(l, s, "/d/f", 1, "ell", bad); err != api.ErrTampered || !l.Has(api.TagBlock, bad[at:at+256]) {
			t.Errorf("with the block %d turned Check = %d", i, err)
		}
		for _, behind := range met.blocks[i+1:] {
			if x := text[behind : behind+256]; l.Has(api.TagBlock, x) && !strings.Contains(text[:at], x) {
				t.Errorf("with the block %d turned one behind it is digested", i)
			}
		}
		l = digest.NewLog()
		if err := verify.Check(l, s, "/d/f", 1, "ell", text[:at+255]); err != api.ErrProof {
			t.Errorf("with the block %d short Check = %d", i, err)
		}
		for _, x := range entriesOf(l) {
			if len(x.Text) != 256 || !strings.Contains(text[:at], x.Text) {
				t.Errorf("with the block %d short a text of %d is digested", i, len(x.Text))
			}
		}
	}
}

// What is wrong ahead of the text digests nothing.
func TestNothingIsDigestedAheadOfTheText(t *testing.T) {
	b, s := small(t)
	text := b.proof("/d/f", 1, 3)
	l := digest.NewLog()
	for what, got := range map[string]api.Errno{
		"a path": verify.Check(l, s, "d", 0, "", text), "below 0": verify.Check(l, s, "/d/f", -1, "", text), "none": verify.Check(l, api.Slot{Counter: 2}, "/d/f", 0, "", text),
		"a list": verify.CheckList(l, s, "d", nil, text), "no names": verify.CheckMissing(l, s, "/", text), "short": verify.Check(l, s, "/d/f", 0, "", text[:255]),
	} {
		if got == api.OK || l.Len() != 0 {
			t.Errorf("%s = %d, and %d were digested", what, got, l.Len())
		}
	}
}

// A nil log answers the same, on texts of all kinds.
func TestNilLogs(t *testing.T) {
	b, s := small(t)
	links, list := b.list("/d")
	proof := b.proof("/d/f", 1, 3)
	for _, text := range []string{proof, list, "", proof[:900], turned(proof, 2100), turned(list, 2100), proof + "x", b.proof("/d/f", 0, 0)} {
		for _, p := range []string{"/", "/d", "/d/f", "/d/f/x", "/d/", "/x", "d", "", "/d/x"} {
			for _, s := range []api.Slot{s, {}, {Counter: 1, Root: s.Root}} {
				with, without := each(digest.NewLog(), s, p, links, text), each(nil, s, p, links, text)
				for name, err := range with {
					if without[name] != err {
						t.Errorf("%s of %q with a log = %d, without one %d", name, p, err, without[name])
					}
				}
			}
		}
	}
}

// What a log had ahead stays, in its order, whatever is asked; answers don't hang on it.
func TestTheLogAheadStays(t *testing.T) {
	b, s := small(t)
	links, list := b.list("/d")
	proof := b.proof("/d/f", 1, 3)
	l := digest.NewLog()
	l.Of(api.TagProof, proof[:256])
	l.Of(api.TagBlock, "something else")
	l.Of(api.TagBlock, proof[256:512])
	for _, text := range []string{proof, list, turned(proof, 2100), proof[:900], "", turned(list, 9)} {
		for _, p := range []string{"/d", "/d/f", "/d/x", "/x", "d"} {
			ahead := entriesOf(l)
			got, want := each(l, s, p, links, text), each(nil, s, p, links, text)
			for name, err := range want {
				if got[name] != err {
					t.Errorf("%s of %s = %d; want %d", name, p, got[name], err)
				}
			}
			if now := entriesOf(l); !slices.Equal(now[:len(ahead)], ahead) {
				t.Error("the log has other entries than ahead")
			}
		}
	}
}

// A call keeps nothing: what was asked ahead, rightly or wrongly, has no part in an answer.
func TestNothingIsKept(t *testing.T) {
	b, s := small(t)
	links, list := b.list("/d")
	proof := b.proof("/d/f", 1, 3)
	for range 3 {
		for _, bad := range []string{"", turned(proof, 5), turned(proof, 2100), proof[:len(proof)-1], proof + "x", list} {
			each(b.l, s, "/d/f", links, bad)
			each(b.l, api.Slot{Counter: 8, Root: s.Root}, "/d/f", links, proof)
			question{s, "/d/f", 1, "ell", bad}.asked(t)
			question{s, "/d/f", 1, "ell", proof}.is(t, "right", api.OK)
			b.ok(verify.CheckList(b.l, s, "/d", links, list))
		}
	}
}

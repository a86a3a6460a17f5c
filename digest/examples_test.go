package digest_test

import (
	"strings"
	"testing"

	"signet/api"
	"signet/digest"
)

// The examples of chapter 3.

func TestFirstExamples(t *testing.T) {
	if n := digest.Pieces(""); n != 1 {
		t.Error(n)
	}
	if n := digest.Pieces(strings.Repeat("a", 23)); n != 1 {
		t.Error(n)
	}
	if n := digest.Pieces(strings.Repeat("a", 24)); n != 2 {
		t.Error(n)
	}
	x := digest.Of(1, "a")
	if n := digest.Far(x, x); n != 0 {
		t.Error(n)
	}
	if x, at, err := digest.Parse("0g"); x != (api.Sum{}) || at != 1 || err != api.ErrSum {
		t.Error(x, at, err)
	}
	if x, at, err := digest.Parse(""); x != (api.Sum{}) || at != 0 || err != api.ErrSum {
		t.Error(x, at, err)
	}
	if s := digest.Text(api.Sum{}); s != strings.Repeat("0", 64) {
		t.Error(s)
	}
}

func TestSecondExample(t *testing.T) {
	l := digest.NewLog()
	l.Of(1, "a")
	l.Of(1, "a")
	l.Of(2, "a")
	if l.Len() != 2 {
		t.Error(l.Len())
	}
	if e, is := l.At(1); e != (api.Entry{Tag: 2, Text: "a"}) || !is {
		t.Error(e, is)
	}
	if a, b, is := l.Collision(); a != 0 || b != 0 || is {
		t.Error(a, b, is)
	}
}

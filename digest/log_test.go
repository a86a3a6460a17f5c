package digest_test

import (
	"math"
	"testing"

	"signet/api"
	"signet/digest"
)

// wantEntries holds a log against the entries that it should have.
func wantEntries(t *testing.T, l *digest.Log, want ...api.Entry) {
	t.Helper()
	if l.Len() != len(want) {
		t.Errorf("Len = %d, want %d", l.Len(), len(want))
	}
	for n, e := range want {
		if got, is := l.At(n); got != e || !is {
			t.Errorf("At(%d) = %v, %v; want %v", n, got, is, e)
		}
		if !l.Has(e.Tag, e.Text) {
			t.Errorf("%v is not there", e)
		}
	}
	for _, n := range []int{math.MinInt, -2, -1, len(want), len(want) + 1, math.MaxInt} {
		if got, is := l.At(n); got != (api.Entry{}) || is {
			t.Errorf("At(%d) = %v, %v", n, got, is)
		}
	}
}

func wantNoCollision(t *testing.T, l *digest.Log) {
	t.Helper()
	if a, b, is := l.Collision(); a != 0 || b != 0 || is {
		t.Errorf("Collision() = %d, %d, %v", a, b, is)
	}
}

// 3.3

func TestLogWithoutEntries(t *testing.T) {
	l := digest.NewLog()
	wantEntries(t, l)
	wantNoCollision(t, l)
	if l.Has(0, "") || l.Has(1, "a") {
		t.Error("something is in it")
	}
}

func TestLogIsTheDigest(t *testing.T) {
	l := digest.NewLog()
	for range 2 { // what is in it is answered again
		for _, tag := range tags {
			for _, s := range texts() {
				if got, want := l.Of(tag, s), asTold(tag, s); got != want {
					t.Errorf("Of(%d, %q) = %x, want %x", tag, s, got, want)
				}
			}
		}
	}
}

func TestLogKeepsEachOnceInOrder(t *testing.T) {
	l := digest.NewLog()
	a, b, none, long := api.Entry{Tag: 1, Text: "a"}, api.Entry{Tag: 1, Text: "b"}, api.Entry{}, api.Entry{Tag: 255, Text: counted(256)}
	other := api.Entry{Tag: 2, Text: "a"}
	for _, step := range []struct {
		asked api.Entry
		want  []api.Entry
	}{
		{b, []api.Entry{b}},
		{b, []api.Entry{b}},
		{a, []api.Entry{b, a}},
		{b, []api.Entry{b, a}},
		{other, []api.Entry{b, a, other}},
		{none, []api.Entry{b, a, other, none}},
		{a, []api.Entry{b, a, other, none}},
		{long, []api.Entry{b, a, other, none, long}},
		{none, []api.Entry{b, a, other, none, long}},
		{long, []api.Entry{b, a, other, none, long}},
	} {
		if x := l.Of(step.asked.Tag, step.asked.Text); x != asTold(step.asked.Tag, step.asked.Text) {
			t.Errorf("%v: %x", step.asked, x)
		}
		wantEntries(t, l, step.want...)
		wantNoCollision(t, l)
	}
}

func TestHasOfWhatIsNotThere(t *testing.T) {
	l := digest.NewLog()
	l.Of(1, "a")
	l.Of(2, "b")
	for _, e := range []api.Entry{{Tag: 2, Text: "a"}, {Tag: 1, Text: "b"}, {Tag: 1, Text: ""}, {Tag: 1, Text: "aa"}, {Tag: 1, Text: "A"}, {Tag: 0, Text: "a"}, {Tag: 0, Text: ""}} {
		if l.Has(e.Tag, e.Text) {
			t.Errorf("%v is there", e)
		}
	}
	// Neither the digests that others make nor a question puts anything in.
	digest.Of(3, "c")
	digest.NewLog().Of(3, "c")
	if l.Has(3, "c") || l.Has(3, "c") {
		t.Error("{3 c} is there")
	}
	wantEntries(t, l, api.Entry{Tag: 1, Text: "a"}, api.Entry{Tag: 2, Text: "b"})
}

func TestCloneGoesItsOwnWay(t *testing.T) {
	a, b, c, d := api.Entry{Tag: 1, Text: "a"}, api.Entry{Tag: 1, Text: "b"}, api.Entry{Tag: 1, Text: "c"}, api.Entry{Tag: 1, Text: "d"}
	add := func(l *digest.Log, e api.Entry) {
		if x := l.Of(e.Tag, e.Text); x != asTold(e.Tag, e.Text) {
			t.Errorf("%v: %x", e, x)
		}
	}
	l := digest.NewLog()
	for _, e := range []api.Entry{a, b, c} { // three, so that a list may have room behind them
		add(l, e)
	}
	m := l.Clone()
	wantEntries(t, m, a, b, c)
	wantNoCollision(t, m)
	e, f := api.Entry{Tag: 2, Text: "e"}, api.Entry{Tag: 2, Text: "f"}
	add(m, d)
	wantEntries(t, l, a, b, c)
	add(l, e)
	add(l, f)
	wantEntries(t, l, a, b, c, e, f)
	wantEntries(t, m, a, b, c, d)
	if l.Has(1, "d") || m.Has(2, "e") || m.Has(2, "f") {
		t.Error("what is new in one is in the other")
	}
	add(m, e)
	wantEntries(t, m, a, b, c, d, e)
	add(m, a)
	wantEntries(t, m, a, b, c, d, e)
}

func TestCloneOfALogWithoutEntries(t *testing.T) {
	l := digest.NewLog()
	m := l.Clone()
	wantEntries(t, m)
	m.Of(1, "a")
	wantEntries(t, m, api.Entry{Tag: 1, Text: "a"})
	wantEntries(t, l)
}

func TestNilLog(t *testing.T) {
	var l *digest.Log
	for range 2 {
		for _, tag := range tags {
			for _, s := range texts() {
				if got, want := l.Of(tag, s), asTold(tag, s); got != want {
					t.Errorf("Of(%d, %q) = %x, want %x", tag, s, got, want)
				}
			}
		}
		wantEntries(t, l)
		wantNoCollision(t, l)
		if l.Has(1, "a") || l.Has(0, "") {
			t.Error("something is in it")
		}
	}
	m := l.Clone()
	if m == nil {
		t.Fatal("no log")
	}
	wantEntries(t, m)
	wantNoCollision(t, m)
	m.Of(1, "a")
	wantEntries(t, m, api.Entry{Tag: 1, Text: "a"})
}

// 3.4, of logs

func TestOneEntryHasNoCollision(t *testing.T) {
	for _, s := range texts() {
		l := digest.NewLog()
		for range 3 {
			l.Of(1, s)
			wantNoCollision(t, l)
		}
		wantEntries(t, l, api.Entry{Tag: 1, Text: s})
	}
}

func TestAskedAgainMakesNoCollision(t *testing.T) {
	l := digest.NewLog()
	for n := range 2000 {
		l.Of(byte(n%7), counted(n))
	}
	wantNoCollision(t, l)
	for n := range 2000 {
		l.Of(byte(n%7), counted(n))
	}
	wantNoCollision(t, l)
	if l.Len() != 2000 {
		t.Error(l.Len())
	}
}
